/- The draws of chapter 6: a text of 16 bytes, or of another length. -/
import Derived.Test.YtepnnmckbcomjaaDoorDrawMore
namespace Go.Proofs.YtepnnmckbcomjaaDoor
open Go.RowKit Go.Proofs.YtepnnmckbcomjaaDoor.Hexa Go.Proofs.YtepnnmckbcomjaaDoor.Byt
namespace Draw

set_option maxHeartbeats 1000000 in
theorem bytes6_any (c : Nat) (ad : Option Addr) (len cap : Nat) (w : World) (hlen : len ≤ 1048576) (hc : Cur w c ad len cap) (hs : Src w c ad len) :
    Calls Tryd.prog 21 #[.pointer (some ⟨c, 0, none⟩)] w (DrawPost (fun v => ∃ t : ByteArray, v = .string t ∧ t.size ≤ 17) w c ad len cap) := by
  have hlt0 := cur_lt hc
  have C1 := Lib.hid (cur_grown hc (grown_alloc w (.cells #[.int .i64 16, .int .i64 16, .int .i64 16, .int .i64 16, .int .i64 16, .int .i64 16, .int .i64 15, .int .i64 17, .int .i64 0] 3) none) (by simp))
  have S1 := Lib.hid (src_grown' hs (grown_alloc w (.cells #[.int .i64 16, .int .i64 16, .int .i64 16, .int .i64 16, .int .i64 16, .int .i64 16, .int .i64 15, .int .i64 17, .int .i64 0] 3) none) (fun k e => by cases e) (by omega))
  have G1 : Hid (w.grownBy (w.alloc (.cells #[.int .i64 16, .int .i64 16, .int .i64 16, .int .i64 16, .int .i64 16, .int .i64 16, .int .i64 15, .int .i64 17, .int .i64 0] 3)) (some c)) := Lib.hid (grown_alloc _ _ _)
  have hh := heap_alloc_new w (.cells #[.int .i64 16, .int .i64 16, .int .i64 16, .int .i64 16, .int .i64 16, .int .i64 16, .int .i64 15, .int .i64 17, .int .i64 0] 3)
  have hz1 : (w.alloc (.cells #[.int .i64 16, .int .i64 16, .int .i64 16, .int .i64 16, .int .i64 16, .int .i64 16, .int .i64 15, .int .i64 17, .int .i64 0] 3)).heap.size = w.heap.size + 1 := by simp
  have HH := Lib.hid hh
  have HZ := Lib.hid hz1
  clear hc hs hh hz1
  go_enter Tryd.func21, Tryd.ntmps21
  go_wp2_with fail
  generalize w.alloc (.cells #[.int .i64 16, .int .i64 16, .int .i64 16, .int .i64 16, .int .i64 16, .int .i64 16, .int .i64 15, .int .i64 17, .int .i64 0] 3) = W1 at C1 S1 G1 HH HZ ⊢
  refine (pickInt_any c ad len cap w.heap.size 9 9 [16, 16, 16, 16, 16, 16, 15, 17, 0] _ hlen (by decide) (by decide) rfl ?_ (by have := HZ.out; omega) (by omega) C1.out S1.out).mono ?_
  · intro j hj
    rcases j with _ | _ | _ | _ | _ | _ | _ | _ | _ | j
    all_goals first | omega | (simp only [World.cell?, HH.out]; rfl)
  rintro e w2 ⟨v, ⟨z, hz, rfl⟩, rfl, hc2, hg2⟩
  have hz' : 0 ≤ z ∧ z ≤ 17 := by simp at hz; omega
  obtain ⟨m, rfl⟩ : ∃ m : Nat, z = m := ⟨z.toNat, by omega⟩
  have S2 := Lib.hid (src_grown S1.out hg2 (cur_lt C1.out))
  have C2 := Lib.hid hc2
  have G2 := Lib.hid (grownBy_trans G1.out hg2)
  clear hc2 hg2 hz
  go_wp2_with fail
  refine (text_any c ad len cap m w2 hlen (by omega) C2.out S2.out).mono ?_
  rintro e w3 ⟨v, ⟨a, rfl, ha⟩, rfl, hc3, hg3⟩
  have C3 := Lib.hid hc3
  have G3 := Lib.hid (grownBy_trans G2.out hg3)
  clear hc3 hg3
  go_wp2
  go_ret
  exact ⟨_, ⟨a, rfl, by omega⟩, rfl, C3.out, G3.out⟩

def TextPost (w : World) (e : Ending) (w' : World) : Prop := ∃ a : ByteArray, e = .returned (.string a) ∧ a.size ≤ 17 ∧ Below w.heap.size w w'
def TwoPost (w : World) (e : Ending) (w' : World) : Prop := ∃ a b : ByteArray, e = .returned (.tuple #[.string a, .string b]) ∧ a.size ≤ 17 ∧ b.size ≤ 17 ∧ Below w.heap.size w w'

end Draw
end Go.Proofs.YtepnnmckbcomjaaDoor
