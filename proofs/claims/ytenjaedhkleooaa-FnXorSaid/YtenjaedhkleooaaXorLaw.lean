/- FnXor: the law's walk, over what the program's XorText and ZeroText return. -/
import Derived.Test.YtenjaedhkleooaaDrawMore
import Derived.Test.YtenjaedhkleooaaNumSpec
namespace Go.Proofs.Ytenjaedhkleooaa
open Go.RowKit Go.Proofs.Ytenjaedhkleooaa.Hexa Go.Proofs.Ytenjaedhkleooaa.Byt
namespace Draw

def XorPost (w : World) (e : Ending) (w' : World) : Prop :=
  ∃ a b : ByteArray, e = .returned (.tuple #[.string a, .string b]) ∧ a.size ≤ 8 ∧ b.size ≤ 9 ∧ Below w.heap.size w w'

set_option maxHeartbeats 1000000 in
theorem drawXor_any (ad : Option Addr) (len cap : Nat) (w : World) (hlen : len ≤ 1048576) (hs : Src w w.heap.size ad len) :
    Calls Try.prog 11 #[.slice ad len cap] w (XorPost w) := by
  have HS := Lib.hid hs
  clear hs
  go_enter Try.func11, Try.ntmps11
  go_wp2_with fail
  refine (new_any ad len cap w hlen HS.out).mono ?_
  rintro e w1 ⟨rfl, h, rfl⟩
  have C1 : Hid (Cur (w.alloc (.cells #[.slice ad len cap, .int .i64 0, .int .i64 h] 59)) w.heap.size ad len cap) := Lib.hid ⟨0, h, Nat.zero_le _, heap_alloc_new w _⟩
  have S1 : Hid (Src (w.alloc (.cells #[.slice ad len cap, .int .i64 0, .int .i64 h] 59)) w.heap.size ad len) := Lib.hid (src_grown' HS.out (grown_alloc _ _ none) (fun k e => by cases e) (Nat.le_refl _))
  have B1 : Hid (Below w.heap.size w (w.alloc (.cells #[.slice ad len cap, .int .i64 0, .int .i64 h] 59))) := Lib.hid ((Below.refl _ _).alloc (Nat.le_refl _) _)
  generalize w.alloc (.cells #[.slice ad len cap, .int .i64 0, .int .i64 h] 59) = W1 at C1 S1 B1 ⊢
  go_wp2_with fail
  refine (below_any w.heap.size ad len cap 9 W1 hlen (by decide) (by decide) C1.out S1.out).mono ?_
  rintro e w2 ⟨x, x0, x1, rfl, hc2, hg2⟩
  obtain ⟨n, rfl⟩ : ∃ n : Nat, x = n := ⟨x.toNat, by omega⟩
  have S2 := Lib.hid (src_grown S1.out hg2 (cur_lt C1.out))
  have C2 := Lib.hid hc2
  have B2 := Lib.hid (B1.out.grown hg2 (B1.out.size) (fun k e => by simp at e; omega))
  clear hc2 hg2 C1 S1 B1
  go_wp2_with fail
  refine (text_any w.heap.size ad len cap n w2 hlen (by omega) C2.out S2.out).mono ?_
  rintro e w3 ⟨v, ⟨a, rfl, ha⟩, rfl, hc3, hg3⟩
  have S3 := Lib.hid (src_grown S2.out hg3 (cur_lt C2.out))
  have C3 := Lib.hid hc3
  have B3 := Lib.hid (B2.out.grown hg3 (B2.out.size) (fun k e => by simp at e; omega))
  clear hc3 hg3 C2 S2 B2
  have hlt3 := cur_lt C3.out
  go_wp2_with fail
  have C4 := Lib.hid (cur_grown C3.out (grown_alloc w3 (.cells #[.int .i64 n, .int .i64 n, .int .i64 n, .int .i64 ((n : Int) + 1)] 3) none) (by simp))
  have S4 := Lib.hid (src_grown' S3.out (grown_alloc w3 (.cells #[.int .i64 n, .int .i64 n, .int .i64 n, .int .i64 ((n : Int) + 1)] 3) none) (fun k e => by cases e) (by omega))
  have B4 := Lib.hid (B3.out.alloc (by omega) (.cells #[.int .i64 n, .int .i64 n, .int .i64 n, .int .i64 ((n : Int) + 1)] 3))
  refine (pickInt_any w.heap.size ad len cap w3.heap.size 4 4 [n, n, n, (n : Int) + 1] _ hlen (by decide) (by decide) rfl ?_ (by simp) (by omega) C4.out S4.out).mono ?_
  · intro j hj
    have hh := heap_alloc_new w3 (.cells #[.int .i64 n, .int .i64 n, .int .i64 n, .int .i64 ((n : Int) + 1)] 3)
    rcases j with _ | _ | _ | _ | j
    all_goals first | omega | (simp only [World.cell?, hh]; rfl)
  rintro e w5 ⟨v, ⟨z, hz, rfl⟩, rfl, hc5, hg5⟩
  have hz' : z = n ∨ z = (n : Int) + 1 := by simp at hz; omega
  obtain ⟨m, rfl⟩ : ∃ m : Nat, z = m := ⟨z.toNat, by omega⟩
  have S5 := Lib.hid (src_grown S4.out hg5 (cur_lt C4.out))
  have C5 := Lib.hid hc5
  have B5 := Lib.hid (B4.out.grown hg5 (B4.out.size) (fun k e => by simp at e; omega))
  clear hc5 hg5 C4 S4 B4 C3 S3 B3 hz
  go_wp2_with fail
  refine (text_any w.heap.size ad len cap m w5 hlen (by omega) C5.out S5.out).mono ?_
  rintro e w6 ⟨v, ⟨b, rfl, hb⟩, rfl, hc6, hg6⟩
  have B6 := Lib.hid (B5.out.grown hg6 (B5.out.size) (fun k e => by simp at e; omega))
  clear hc6 hg6
  go_wp2
  go_ret2
  exact ⟨a, b, rfl, by omega, by omega, B6.out⟩
end Draw
theorem xorT_size (a b : ByteArray) (h : a.size = b.size) : (xorT a b).size = a.size := by
  unfold xorT
  rw [if_pos h]
  show (xorL a b a.size).toArray.size = _
  rw [List.size_toArray, xorL_length a b h _ (Nat.le_refl _)]
theorem xorT_list (a b : ByteArray) (h : a.size = b.size) : (xorT a b).data.toList = List.zipWith (· ^^^ ·) a.data.toList b.data.toList := by
  have h1 : a.data.toList.length = a.size := by simp
  have h2 : b.data.toList.length = b.size := by simp
  unfold xorT
  rw [if_pos h]
  show (xorL a b a.size).toArray.toList = _
  unfold xorL
  rw [List.toList_toArray, List.take_of_length_le (by rw [List.length_zipWith]; omega)]
theorem zip_twice : ∀ (l m : List UInt8), l.length = m.length → List.zipWith (· ^^^ ·) (List.zipWith (· ^^^ ·) l m) m = l
  | [], [], _ => rfl
  | a :: l, b :: m, h => by
    simp only [List.zipWith_cons_cons]
    rw [zip_twice l m (by simpa using h), UInt8.xor_assoc, UInt8.xor_self, UInt8.xor_zero]
theorem zip_self : ∀ (l : List UInt8), List.zipWith (· ^^^ ·) l l = List.replicate l.length 0
  | [] => rfl
  | a :: l => by simp only [List.zipWith_cons_cons, List.length_cons, List.replicate_succ]; rw [zip_self l, UInt8.xor_self]
theorem xorT_twice (a b : ByteArray) (h : a.size = b.size) : xorT (xorT a b) b = a := by
  apply ByteArray.ext
  apply Array.toList_inj.1
  rw [xorT_list _ _ (by rw [xorT_size a b h, h]), xorT_list a b h]
  exact zip_twice _ _ (by simpa using h)
theorem xorT_self (a : ByteArray) (h : a.size ≤ 20000) : xorT a a = zeroB a.size := by
  have hz : zeroB (a.size : Int) = longB a.size 0 := by
    unfold zeroB
    rw [if_pos (by omega), Int.toNat_natCast]
  rw [hz]
  apply ByteArray.ext
  apply Array.toList_inj.1
  rw [xorT_list a a rfl, zip_self]
  have h1 : a.data.toList.length = a.size := by simp
  rw [h1]
  rfl
theorem same_textX (a b : ByteArray) : (a.toList == b.toList) = decide (a = b) := by
  rw [Go.ByteArray.toList_eq, Go.ByteArray.toList_eq]
  by_cases h : a = b
  · rw [decide_eq_true h, h]; simp
  · rw [decide_eq_false h]
    refine beq_eq_false_iff_ne.2 (fun e => h (ByteArray.ext (Array.toList_inj.1 e)))

set_option maxRecDepth 100000 in
set_option maxHeartbeats 2000000 in
theorem fnXor_law_of (ad : Option Addr) (len cap : Nat) (w : World) (hlen : len ≤ 1048576) (hs : Draw.Src w w.heap.size ad len)
    (h1 : ∀ (a b : ByteArray) (w : World), a.size ≤ 1000 → b.size ≤ 1000 → Calls Try.prog 12 #[.string a, .string b] w fun e w' => e = .returned (.string (xorT a b)) ∧ Below w.heap.size w w')
    (h2 : ∀ (n : Int) (w : World), 0 ≤ n → n ≤ 1000 → Calls Try.prog 13 #[.int .i64 n] w fun e w' => e = .returned (.string (zeroB n)) ∧ Below w.heap.size w w') :
    Calls Try.prog 3 #[.slice ad len cap] w fun e w' => e = .returned (.bool true) ∧ Below w.heap.size w w' := by
  have HS := Lib.hid hs
  have k1 := Lib.hid h1
  have k2 := Lib.hid h2
  clear hs h1 h2
  go_enter Try.func3, Try.ntmps3
  go_wp2_with (go_at_call 10; go_in)
  refine (Draw.drawXor_any ad len cap w hlen HS.out).mono ?_
  rintro e w1 ⟨a, b, rfl, ha, hb, hb1⟩
  have B1 := Lib.hid hb1
  clear hb1
  go_wp2_with fail
  refine (k1.out a b _ (by omega) (by omega)).mono ?_
  rintro e w2 ⟨rfl, hb2⟩
  have B2 : Hid (Below w.heap.size w w2) := Lib.hid (B1.out.trans (hb2.mono B1.out.size))
  clear hb2 B1
  by_cases hl : a.size = b.size
  · have hx : (xorT a b).size = a.size := xorT_size a b hl
    have e1 := xorT_twice a b hl
    have e2 := xorT_self a (by omega)
    rw [hl] at e2 hx
    have hz8 : (zeroB 8).size = 8 := by decide
    have E1 := Lib.hid e1
    have E2 := Lib.hid e2
    clear e1 e2
    go_wp2_with fail
    refine (k1.out (xorT a b) b w2 (by omega) (by omega)).mono ?_
    rintro e w3 ⟨rfl, hb3⟩
    rw [E1.out]
    have B3 : Hid (Below w.heap.size w w3) := Lib.hid (B2.out.trans (hb3.mono B2.out.size))
    clear hb3
    go_wp2_with fail
    refine (k1.out a a w3 (by omega) (by omega)).mono ?_
    rintro e w4 ⟨rfl, hb4⟩
    rw [E2.out]
    have B4 : Hid (Below w.heap.size w w4) := Lib.hid (B3.out.trans (hb4.mono B3.out.size))
    clear hb4
    go_wp2_with fail
    refine (k2.out b.size w4 (by omega) (by omega)).mono ?_
    rintro e w5 ⟨rfl, hb5⟩
    have B5 : Hid (Below w.heap.size w w5) := Lib.hid (B4.out.trans (hb5.mono B4.out.size))
    clear hb5
    go_wp2_with fail
    refine (k2.out 8 w5 (by omega) (by omega)).mono ?_
    rintro e w6 ⟨rfl, hb6⟩
    go_wp2
    go_ret
    exact ⟨rfl, B5.out.trans (hb6.mono B5.out.size)⟩
  · have hx : xorT a b = ⟨#[]⟩ := if_neg hl
    have h3 : xorT ⟨#[97]⟩ ⟨#[98]⟩ = ⟨#[3]⟩ := by decide
    rw [hx]
    go_wp2_with fail
    refine (k1.out ⟨#[97]⟩ ⟨#[98]⟩ w2 (by decide) (by decide)).mono ?_
    rintro e w3 ⟨rfl, hb3⟩
    rw [h3]
    go_wp2
    go_ret
    exact ⟨rfl, B2.out.trans (hb3.mono B2.out.size)⟩

theorem fnXor_big (ad : Option Addr) (len cap : Nat) (w : World) (hlen : 1048576 < len) :
    Calls Try.prog 3 #[.slice ad len cap] w fun e w' => e = .returned (.bool true) ∧ Below w.heap.size w w' := by
  go_enter Try.func3, Try.ntmps3
  go_wp2_with (go_at_call 10; go_in)
  go_ret
  exact ⟨rfl, Below.refl _ _⟩
end Go.Proofs.Ytenjaedhkleooaa
