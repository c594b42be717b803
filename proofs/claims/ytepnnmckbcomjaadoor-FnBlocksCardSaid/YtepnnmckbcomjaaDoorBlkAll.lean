/- Merged: Others, DrawMore, Draw6, Draw6B, ColMath, BlkLaw6. -/
import Derived.Test.YtepnnmckbcomjaaDoorAesMem
import Derived.Test.YtepnnmckbcomjaaDoorAesText
import Derived.Test.YtepnnmckbcomjaaDoorDrawText
import Derived.Test.YtepnnmckbcomjaaDoorBlockText
import Derived.Test.YtepnnmckbcomjaaDoorAesInv
import Derived.Test.YtepnnmckbcomjaaDoorMixLaw
import Derived.Test.YtepnnmckbcomjaaDoorHexImpl
namespace Go.Proofs.YtepnnmckbcomjaaDoor
open Go.RowKit Go.Proofs.YtepnnmckbcomjaaDoor.Hexa Go.Proofs.YtepnnmckbcomjaaDoor.Byt Go.Proofs.YtepnnmckbcomjaaDoor.Aes Go.Proofs.YtepnnmckbcomjaaDoor.BitsM

def otherU (b : UInt8) : UInt8 := b ^^^ 85
def otherT (s : ByteArray) : ByteArray := txt (s.data.toList.map otherU)
theorem otherT_size (s : ByteArray) : (otherT s).size = s.size := by unfold otherT; rw [txt_size, List.length_map]; simp
theorem otherU_ne (b : UInt8) : otherU b ≠ b := by
  intro h
  have h2 : b ^^^ (b ^^^ 85) = b ^^^ b := by rw [show b ^^^ 85 = b from h]
  rw [← UInt8.xor_assoc, UInt8.xor_self, UInt8.zero_xor] at h2
  exact absurd h2 (by decide)
theorem otherT_ne (s : ByteArray) (h : 0 < s.size) : otherT s ≠ s := by
  intro e
  have e1 : s.data.toList.map otherU = s.data.toList := by
    have := congrArg (fun t => t.data.toList) e
    unfold otherT at this
    rw [txt_list] at this
    exact this
  have hl : 0 < s.data.toList.length := by simpa using h
  match hs : s.data.toList, hl with
  | b :: l, _ =>
    rw [hs] at e1
    simp only [List.map_cons, List.cons.injEq] at e1
    exact otherU_ne b e1.1
theorem other_val (x : UInt8) : bits .xor .u8 (x.toNat : Int) 85 = ((otherU x).toNat : Int) := by
  have := xor8 x 85
  exact this

set_option maxHeartbeats 1000000 in
theorem others_any (s : ByteArray) (w : World) (hs : s.size ≤ 8000000) :
    Calls Tryd.prog 13 #[.string s] w fun e w' => e = .returned (.string (otherT s)) ∧ Below w.heap.size w w' := by
  have kc0 := run_bytes_of_string (P := Tryd.prog) w 9 22 5 s Tryd.underlying9 Tryd.underlying22 Tryd.underlying5
  have b0 := bytes_conv w 5 s w.heap.size (Nat.le_refl _) (by omega)
  have g0 : Below w.heap.size w (w.drew.alloc (.cells (bytesRow s (grownCap w s.size 0 5)) 5 ((bytesRow s (grownCap w s.size 0 5)).size, (bytesRow s (grownCap w s.size 0 5)).size + 1))) := below_grown _ (Nat.le_refl _) _
  generalize w.drew.alloc (.cells (bytesRow s (grownCap w s.size 0 5)) 5 ((bytesRow s (grownCap w s.size 0 5)).size, (bytesRow s (grownCap w s.size 0 5)).size + 1)) = W0 at b0 g0 kc0
  generalize grownCap w s.size 0 5 = c0 at b0 kc0
  have hsl : s.data.toList.length = s.size := by simp
  have HB := Lib.hid b0
  have HG := Lib.hid g0
  obtain ⟨n, hn⟩ : ∃ n, s.size = n := ⟨_, rfl⟩
  rw [hn] at hsl kc0 HB hs
  clear b0 g0
  go_enter Tryd.func13, Tryd.ntmps13
  go_wp2
  clear kc0
  go_loopw [4] (fun iv wr => ∃ k : Nat, k ≤ n ∧ iv = .int .i64 k ∧ Hid (Bytes wr w.heap.size 5 (.slice (some ⟨w.heap.size, 0, none⟩) n c0) (turnT otherU s.data.toList k)) ∧ Hid (Below w.heap.size w wr))
    (fun iv _ => n - (intOf iv).toNat)
  case atStart => exact ⟨0, Nat.zero_le _, rfl, Lib.hid (by rw [turnT_zero]; exact HB.out), HG⟩
  case round =>
    clear HB HG
    obtain ⟨k, hk, rfl, HW, HL⟩ := hrel
    have htl := turnT_length otherU s.data.toList k
    by_cases hlt : k < n
    · have hkl : k < s.data.toList.length := by omega
      have h9 := HW.out
      have hln : n = (turnT otherU s.data.toList k).length := by omega
      have h10 : Bytes wr w.heap.size 5 (.slice (some ⟨w.heap.size, 0, none⟩) (turnT otherU s.data.toList k).length c0) (turnT otherU s.data.toList k) := by rw [← hln]; exact h9
      obtain ⟨hc, hz, hB⟩ := bytes_at h10 k (by omega)
      have hlk : (turnT otherU s.data.toList k)[k]'(by omega) = s.data.toList[k]'hkl := by
        have h1 := turnT_at otherU s.data.toList k hkl
        rw [List.getElem?_eq_getElem (by omega)] at h1
        exact Option.some.inj h1
      have N1 := bytes_set h10 k (otherU (s.data.toList[k]'hkl))
      rw [turnT_set otherU s.data.toList k hkl, ← hln] at N1
      rw [hlk] at hc
      generalize s.data.toList[k]'hkl = x at hc N1
      have hov := other_val x
      have W1 := Lib.hid N1
      have B1 := Lib.hid (HL.out.setCell (p := ⟨w.heap.size, k, none⟩) (Nat.le_refl _) (.int .u8 ((otherU x).toNat : Int)))
      clear N1 h9 h10 hlk hln hkl htl
      go_wp2
      go_roundw
      case rel => exact ⟨k + 1, by omega, by go_num, W1, B1⟩
      case measure => (simp [intOf]; try omega)
    · obtain rfl : k = n := by omega
      have h9 := HW.out
      have hconv := bytes_string (P := Tryd.prog) 22 9 Tryd.underlying22 Tryd.underlying5 Tryd.underlying9 h9
      rw [show turnT otherU s.data.toList k = s.data.toList.map otherU by rw [← hsl]; exact turnT_all _ _] at hconv
      clear h9
      go_wp2
      go_ret
      exact ⟨rfl, HL.out⟩
end Go.Proofs.YtepnnmckbcomjaaDoor
namespace Go.Proofs.YtepnnmckbcomjaaDoor
open Go.RowKit Go.Proofs.YtepnnmckbcomjaaDoor.Hexa Go.Proofs.YtepnnmckbcomjaaDoor.Byt
namespace Draw

set_option maxHeartbeats 1000000 in
theorem pickInt_any (c : Nat) (ad : Option Addr) (len cap : Nat) (g n m : Nat) (zs : List Int) (w : World) (hlen : len ≤ 1048576) (hn : 0 < n) (hn2 : n ≤ 1000000) (hz : zs.length = n) (hcell : ∀ j, j < n → w.cell? ⟨g, j, none⟩ = some (.int .i64 (zs.getD j 0))) (hg : g < w.heap.size) (hgc : g ≠ c) (hc : Cur w c ad len cap) (hs : Src w c ad len) :
    Calls Tryd.prog 32 #[.pointer (some ⟨c, 0, none⟩), .slice (some ⟨g, 0, none⟩) n m] w (DrawPost (fun v => ∃ z ∈ zs, v = .int .i64 z) w c ad len cap) := by
  have HC := Lib.hid hc
  have HS := Lib.hid hs
  have HCE := Lib.hid hcell
  clear hc hs hcell
  go_enter Tryd.func32, Tryd.ntmps32
  go_wp2_with fail
  refine (below_any c ad len cap n w hlen (by omega) (by omega) HC.out HS.out).mono ?_
  rintro e w1 ⟨x, x0, x1, rfl, hc1, hg1⟩
  have HC1 := Lib.hid hc1
  have HG1 := Lib.hid hg1
  obtain ⟨k, rfl⟩ : ∃ k : Nat, x = k := ⟨x.toNat, by omega⟩
  have hk : k < n := by omega
  have ck : w1.cell? ⟨g, k, none⟩ = some (.int .i64 (zs.getD k 0)) := by
    rw [World.cell?_of_block (w := w) (hg1.block g hg (fun e => hgc (by simpa using e)))]; exact HCE.out k hk
  have HM : Hid (zs.getD k 0 ∈ zs) := Lib.hid (by
    have e : zs.getD k 0 = zs[k]'(by omega) := by simp [List.getD, show k < zs.length by omega]
    rw [e]; exact List.getElem_mem _)
  obtain ⟨z, hzz⟩ : ∃ z, zs.getD k 0 = z := ⟨_, rfl⟩
  rw [hzz] at ck HM
  clear hc1 hg1 hzz
  go_wp2
  go_ret
  exact ⟨_, ⟨z, HM.out, rfl⟩, rfl, HC1.out, HG1.out⟩
end Draw
end Go.Proofs.YtepnnmckbcomjaaDoor
namespace Go.Proofs.YtepnnmckbcomjaaDoor
open Go.RowKit Go.Proofs.YtepnnmckbcomjaaDoor.Hexa Go.Proofs.YtepnnmckbcomjaaDoor.Byt
namespace Draw

set_option maxHeartbeats 1000000 in
theorem bytes6_any (c : Nat) (ad : Option Addr) (len cap : Nat) (w : World) (hlen : len ≤ 1048576) (hc : Cur w c ad len cap) (hs : Src w c ad len) :
    Calls Tryd.prog 21 #[.pointer (some ⟨c, 0, none⟩)] w (DrawPost (fun v => ∃ t : ByteArray, v = .string t ∧ t.size ≤ 17) w c ad len cap) := by
  have hlt0 := cur_lt hc
  have C1 := Lib.hid (cur_grown hc (grown_alloc w (.cells #[.int .i64 16, .int .i64 16, .int .i64 16, .int .i64 16, .int .i64 16, .int .i64 16, .int .i64 15, .int .i64 17, .int .i64 0] 3) none) (by simp))
  have S1 := Lib.hid (src_grown' hs (grown_alloc w (.cells #[.int .i64 16, .int .i64 16, .int .i64 16, .int .i64 16, .int .i64 16, .int .i64 16, .int .i64 15, .int .i64 17, .int .i64 0] 3) none) (fun k e => by cases e) (by omega))
  have G1 : Hid (w.grownBy (w.alloc (.cells #[.int .i64 16, .int .i64 16, .int .i64 16, .int .i64 16, .int .i64 16, .int .i64 16, .int .i64 15, .int .i64 17, .int .i64 0] 3)) (some c)) := Lib.hid (grown_alloc _ _ _)
  have hh := heap_alloc_new w (.cells #[.int .i64 16, .int .i64 16, .int .i64 16, .int .i64 16, .int .i64 16, .int .i64 16, .int .i64 15, .int .i64 17, .int .i64 0] 3)
  have hz1 : (w.alloc (.cells #[.int .i64 16, .int .i64 16, .int .i64 16, .int .i64 16, .int .i64 16, .int .i64 16, .int .i64 15, .int .i64 17, .int .i64 0] 3)).heap.size = w.heap.size + 1 := by simp
  have HH := Lib.hid hh
  have HZ := Lib.hid hz1
  clear hc hs hh hz1
  go_enter Tryd.func21, Tryd.ntmps21
  go_wp2_with fail
  generalize w.alloc (.cells #[.int .i64 16, .int .i64 16, .int .i64 16, .int .i64 16, .int .i64 16, .int .i64 16, .int .i64 15, .int .i64 17, .int .i64 0] 3) = W1 at C1 S1 G1 HH HZ ⊢
  refine (pickInt_any c ad len cap w.heap.size 9 9 [16, 16, 16, 16, 16, 16, 15, 17, 0] _ hlen (by decide) (by decide) rfl ?_ (by have := HZ.out; omega) (by omega) C1.out S1.out).mono ?_
  · intro j hj
    rcases j with _ | _ | _ | _ | _ | _ | _ | _ | _ | j
    all_goals first | omega | (simp only [World.cell?, HH.out]; rfl)
  rintro e w2 ⟨v, ⟨z, hz, rfl⟩, rfl, hc2, hg2⟩
  have hz' : 0 ≤ z ∧ z ≤ 17 := by simp at hz; omega
  obtain ⟨m, rfl⟩ : ∃ m : Nat, z = m := ⟨z.toNat, by omega⟩
  have S2 := Lib.hid (src_grown S1.out hg2 (cur_lt C1.out))
  have C2 := Lib.hid hc2
  have G2 := Lib.hid (grownBy_trans G1.out hg2)
  clear hc2 hg2 hz
  go_wp2_with fail
  refine (text_any c ad len cap m w2 hlen (by omega) C2.out S2.out).mono ?_
  rintro e w3 ⟨v, ⟨a, rfl, ha⟩, rfl, hc3, hg3⟩
  have C3 := Lib.hid hc3
  have G3 := Lib.hid (grownBy_trans G2.out hg3)
  clear hc3 hg3
  go_wp2
  go_ret
  exact ⟨_, ⟨a, rfl, by omega⟩, rfl, C3.out, G3.out⟩

def TextPost (w : World) (e : Ending) (w' : World) : Prop := ∃ a : ByteArray, e = .returned (.string a) ∧ a.size ≤ 17 ∧ Below w.heap.size w w'
def TwoPost (w : World) (e : Ending) (w' : World) : Prop := ∃ a b : ByteArray, e = .returned (.tuple #[.string a, .string b]) ∧ a.size ≤ 17 ∧ b.size ≤ 17 ∧ Below w.heap.size w w'

end Draw
end Go.Proofs.YtepnnmckbcomjaaDoor
namespace Go.Proofs.YtepnnmckbcomjaaDoor
open Go.RowKit Go.Proofs.YtepnnmckbcomjaaDoor.Hexa Go.Proofs.YtepnnmckbcomjaaDoor.Byt
namespace Draw
set_option maxHeartbeats 1000000 in
theorem drawBlock_any (ad : Option Addr) (len cap : Nat) (w : World) (hlen : len ≤ 1048576) (hs : Src w w.heap.size ad len) :
    Calls Tryd.prog 8 #[.slice ad len cap] w (TwoPost w) := by
  have HS := Lib.hid hs
  clear hs
  go_enter Tryd.func8, Tryd.ntmps8
  go_wp2_with fail
  refine (new_any ad len cap w hlen HS.out).mono ?_
  rintro e w1 ⟨rfl, h, rfl⟩
  have C1 : Hid (Cur (w.alloc (.cells #[.slice ad len cap, .int .i64 0, .int .i64 h] 51)) w.heap.size ad len cap) := Lib.hid ⟨0, h, Nat.zero_le _, heap_alloc_new w _⟩
  have S1 : Hid (Src (w.alloc (.cells #[.slice ad len cap, .int .i64 0, .int .i64 h] 51)) w.heap.size ad len) := Lib.hid (src_grown' HS.out (grown_alloc _ _ none) (fun k e => by cases e) (Nat.le_refl _))
  have B1 : Hid (Below w.heap.size w (w.alloc (.cells #[.slice ad len cap, .int .i64 0, .int .i64 h] 51))) := Lib.hid ((Below.refl _ _).alloc (Nat.le_refl _) _)
  generalize w.alloc (.cells #[.slice ad len cap, .int .i64 0, .int .i64 h] 51) = W1 at C1 S1 B1 ⊢
  go_wp2_with fail
  refine (bytes6_any w.heap.size ad len cap W1 hlen C1.out S1.out).mono ?_
  rintro e w2 ⟨v, ⟨a, rfl, ha⟩, rfl, hc2, hg2⟩
  have S2 := Lib.hid (src_grown S1.out hg2 (cur_lt C1.out))
  have C2 := Lib.hid hc2
  have B2 := Lib.hid (B1.out.grown hg2 (B1.out.size) (fun k e => by simp at e; omega))
  clear hc2 hg2 C1 S1 B1
  go_wp2_with fail
  refine (bytes6_any w.heap.size ad len cap w2 hlen C2.out S2.out).mono ?_
  rintro e w3 ⟨v, ⟨b, rfl, hb⟩, rfl, hc3, hg3⟩
  have B3 := Lib.hid (B2.out.grown hg3 (B2.out.size) (fun k e => by simp at e; omega))
  clear hc3 hg3
  go_wp2
  go_ret2
  exact ⟨a, b, rfl, ha, hb, B3.out⟩
end Draw
end Go.Proofs.YtepnnmckbcomjaaDoor
namespace Go.Proofs.YtepnnmckbcomjaaDoor
open Go.RowKit Go.Proofs.YtepnnmckbcomjaaDoor.Hexa Go.Proofs.YtepnnmckbcomjaaDoor.Byt Go.Proofs.YtepnnmckbcomjaaDoor.Aes

def shN (a : ByteArray) : Nat → ByteArray
  | 0 => a
  | n + 1 => shiftT (shN a n)
def mxN (a : ByteArray) : Nat → ByteArray
  | 0 => a
  | n + 1 => mixT (mxN a n)
theorem shN_size (a : ByteArray) (h : a.size = 16) : ∀ n, (shN a n).size = 16
  | 0 => h
  | _ + 1 => shiftT_size _
theorem mxN_size (a : ByteArray) (h : a.size = 16) : ∀ n, (mxN a n).size = 16
  | 0 => h
  | _ + 1 => mixT_size _
theorem shN_four (a : ByteArray) (h : a.size = 16) : shN a 4 = a := by
  show shiftT (shiftT (shiftT (shiftT a))) = a
  unfold shiftT
  rw [txt_list, txt_list, txt_list, shift_four (by simpa using h), txt_of]
theorem mxN_four (a : ByteArray) (h : a.size = 16) : mxN a 4 = a := by
  show mixT (mixT (mixT (mixT a))) = a
  unfold mixT
  rw [txt_list, txt_list, txt_list, mix_four (by simpa using h), txt_of]
theorem mix_linear (a b : ByteArray) (ha : a.size = 16) (hb : b.size = 16) : mixT (xorT a b) = xorT (mixT a) (mixT b) := by
  rw [xorT_txt a b (by rw [ha, hb]), xorT_txt _ _ (by rw [mixT_size, mixT_size])]
  unfold mixT
  rw [txt_list, txt_list, txt_list, mix_xor (by simpa using ha) (by simpa using hb)]
theorem xorT_sixteen (a b : ByteArray) (ha : a.size = 16) (hb : b.size = 16) : (xorT a b).size = 16 := by
  rw [xorT_txt a b (by rw [ha, hb]), txt_size]
  exact xorB_length (by simpa using ha) (by simpa using hb)
theorem boxT_nought : boxT ⟨#[0]⟩ = ⟨#[99]⟩ := by decide +kernel
theorem blockT_inj {key a b : ByteArray} (hk : key.size = 16) (ha : a.size = 16) (hb : b.size = 16) (h : blockT key a = blockT key b) : a = b := by
  have e : blockL key.data.toList a.data.toList = blockL key.data.toList b.data.toList := by
    have := congrArg (fun t => t.data.toList) h
    unfold blockT at this
    rw [txt_list, txt_list] at this
    exact this
  exact text_inj (blockL_inj (by simpa using hk) (by simpa using ha) (by simpa using hb) e)
end Go.Proofs.YtepnnmckbcomjaaDoor
namespace Go.Proofs.YtepnnmckbcomjaaDoor
open Go.RowKit Go.Proofs.YtepnnmckbcomjaaDoor.Hexa Go.Proofs.YtepnnmckbcomjaaDoor.Byt Go.Proofs.YtepnnmckbcomjaaDoor.Aes Go.Proofs.YtepnnmckbcomjaaDoor.Parts

theorem blockT_known : blockT ⟨#[0, 1, 2, 3, 4, 5, 6, 7, 8, 9, 10, 11, 12, 13, 14, 15]⟩ ⟨#[0, 17, 34, 51, 68, 85, 102, 119, 136, 153, 170, 187, 204, 221, 238, 255]⟩ = ⟨#[105, 196, 224, 216, 106, 123, 4, 48, 216, 205, 183, 128, 112, 180, 197, 90]⟩ := by decide +kernel
theorem hex_known : (⟨(hexL (⟨#[105, 196, 224, 216, 106, 123, 4, 48, 216, 205, 183, 128, 112, 180, 197, 90]⟩ : ByteArray).data.toList).toArray⟩ : ByteArray) = ⟨#[54, 57, 99, 52, 101, 48, 100, 56, 54, 97, 55, 98, 48, 52, 51, 48, 100, 56, 99, 100, 98, 55, 56, 48, 55, 48, 98, 52, 99, 53, 53, 97]⟩ := by decide +kernel

set_option maxRecDepth 100000 in
set_option maxHeartbeats 2000000 in
theorem fnBlocks_law (ad : Option Addr) (len cap : Nat) (w : World) (hlen : len ≤ 1048576) (hs : Draw.Src w w.heap.size ad len) (hT : MixTab w) :
    Calls Tryd.prog 3 #[.slice ad len cap] w fun e w' => e = .returned (.bool true) ∧ Below w.heap.size w w' := by
  have HS := Lib.hid hs
  have HT := Lib.hid hT
  have kn : Hid (∀ w : World, MixTab w → Calls Tryd.prog 9 #[.string ⟨#[0, 1, 2, 3, 4, 5, 6, 7, 8, 9, 10, 11, 12, 13, 14, 15]⟩, .string ⟨#[0, 17, 34, 51, 68, 85, 102, 119, 136, 153, 170, 187, 204, 221, 238, 255]⟩] w fun e w' => e = .returned (.string ⟨#[105, 196, 224, 216, 106, 123, 4, 48, 216, 205, 183, 128, 112, 180, 197, 90]⟩) ∧ Below w.heap.size w w') := Lib.hid fun w hT => by
    have := implBlock_yes ⟨#[0, 1, 2, 3, 4, 5, 6, 7, 8, 9, 10, 11, 12, 13, 14, 15]⟩ ⟨#[0, 17, 34, 51, 68, 85, 102, 119, 136, 153, 170, 187, 204, 221, 238, 255]⟩ w rfl rfl hT
    rw [blockT_known] at this
    exact this
  have kh : Hid (∀ w : World, Calls Tryd.prog 10 #[.string ⟨#[105, 196, 224, 216, 106, 123, 4, 48, 216, 205, 183, 128, 112, 180, 197, 90]⟩] w fun e w' => e = .returned (.tuple #[.string ⟨#[54, 57, 99, 52, 101, 48, 100, 56, 54, 97, 55, 98, 48, 52, 51, 48, 100, 56, 99, 100, 98, 55, 56, 48, 55, 48, 98, 52, 99, 53, 53, 97]⟩, .bool true]) ∧ Below w.heap.size w w') := Lib.hid fun w => by
    have := implHex_yes ⟨#[105, 196, 224, 216, 106, 123, 4, 48, 216, 205, 183, 128, 112, 180, 197, 90]⟩ w (by decide)
    rw [hex_known] at this
    exact this
  clear hs hT
  go_enter Tryd.func3, Tryd.ntmps3
  go_wp2_with (go_at_call 7; go_in)
  refine (Draw.drawBlock_any ad len cap w hlen HS.out).mono ?_
  rintro e w1 ⟨key, blk, rfl, hka, hba, hb1⟩
  have B1 := Lib.hid hb1
  clear hb1
  by_cases h16 : key.size = 16 ∧ blk.size = 16
  · obtain ⟨hk, hb⟩ := h16
    have hoz : (otherT blk).size = 16 := by rw [otherT_size]; exact hb
    have hne : ¬ (blockT key blk = blockT key (otherT blk)) := fun e => otherT_ne blk (by omega) (blockT_inj hk hb hoz e).symm
    have hsz := blockT_size key blk hk hb
    have ki := Lib.hid fun w hT => implBlock_yes key blk w hk hb hT
    have ks := Lib.hid fun w => specBlockText_yes key blk w hk hb
    have ko := Lib.hid fun w => others_any blk w (by omega)
    have ki2 := Lib.hid fun w hT => implBlock_yes key (otherT blk) w hk hoz hT
    have kk := Lib.hid fun w => implKeys_yes key w hk
    have HK0 := Lib.hid (keyT_zero key hk)
    generalize blockT key (otherT blk) = s2 at hne ki2
    generalize blockT key blk = s1 at hne ki ks hsz
    generalize otherT blk = ob at ko ki2
    have hne2 : ¬ (s1.toList = s2.toList) := fun e => hne (text_inj (by rw [Go.ByteArray.toList_eq, Go.ByteArray.toList_eq] at e; exact e))
    have hne3 : (s1.toList == s2.toList) = false := beq_eq_false_iff_ne.2 hne2
    clear hoz hne
    go_wp2_with fail
    refine (ki.out _ (HT.out.below B1.out)).mono ?_
    rintro e w2 ⟨rfl, hb2⟩
    have B2 := Lib.hid (B1.out.trans (hb2.mono B1.out.size))
    clear hb2
    go_wp2_with fail
    refine (kn.out _ (HT.out.below B2.out)).mono ?_
    rintro e w3 ⟨rfl, hb3⟩
    have B3 := Lib.hid (B2.out.trans (hb3.mono B2.out.size))
    clear hb3
    go_wp2_with fail
    refine (kh.out _).mono ?_
    rintro e w4 ⟨rfl, hb4⟩
    have B4 := Lib.hid (B3.out.trans (hb4.mono B3.out.size))
    clear hb4
    go_wp2_with fail
    refine (kk.out _).mono ?_
    rintro e w5 ⟨v5, rfl, hown5, hb5⟩
    rw [keysTo_length] at hown5
    obtain ⟨ad5, cap5, rfl, hc5, hn5, hr5⟩ := own_form hown5
    have HR5 := Lib.hid hr5
    have B5 := Lib.hid (B4.out.trans (hb5.mono B4.out.size))
    clear hown5 hb5 hr5
    go_wp2_with fail
    refine (ks.out _).mono ?_
    rintro e w6 ⟨rfl, hb6⟩
    have HR6 := Lib.hid (reads_below HR5.out hb6)
    have B6 := Lib.hid (B5.out.trans (hb6.mono B5.out.size))
    clear hb6
    go_wp2_with fail
    refine (ko.out _).mono ?_
    rintro e w7 ⟨rfl, hb7⟩
    have HR7 := Lib.hid (reads_below HR6.out hb7)
    have B7 := Lib.hid (B6.out.trans (hb7.mono B6.out.size))
    clear hb7
    go_wp2_with fail
    refine (ki2.out _ (HT.out.below B7.out)).mono ?_
    rintro e w8 ⟨rfl, hb8⟩
    have HR8 := Lib.hid (reads_below HR7.out hb8)
    have B8 := Lib.hid (B7.out.trans (hb8.mono B7.out.size))
    clear hb8
    obtain ⟨g, hg, c0⟩ := reads_key HR8.out 0 (by omega)
    cases hg
    rw [HK0.out] at c0
    go_wp2
    go_ret
    exact ⟨rfl, B8.out⟩
  · go_wp2_with fail
    refine (implBlock_no key blk _ h16).mono ?_
    rintro e w2 ⟨rfl, hb2⟩
    have B2 := Lib.hid (B1.out.trans (hb2.mono B1.out.size))
    clear hb2
    go_wp2_with fail
    refine (kn.out _ (HT.out.below B2.out)).mono ?_
    rintro e w3 ⟨rfl, hb3⟩
    have B3 := Lib.hid (B2.out.trans (hb3.mono B2.out.size))
    clear hb3
    go_wp2_with fail
    refine (kh.out _).mono ?_
    rintro e w4 ⟨rfl, hb4⟩
    have B4 := Lib.hid (B3.out.trans (hb4.mono B3.out.size))
    clear hb4
    by_cases hk : key.size = 16
    · have hb : ¬ blk.size = 16 := fun e => h16 ⟨hk, e⟩
      clear h16
      go_wp2
      go_ret
      exact ⟨rfl, B4.out⟩
    · clear h16
      go_wp2
      go_ret
      exact ⟨rfl, B4.out⟩

theorem fnBlocks_big (ad : Option Addr) (len cap : Nat) (w : World) (hlen : 1048576 < len) :
    Calls Tryd.prog 3 #[.slice ad len cap] w fun e w' => e = .returned (.bool true) ∧ Below w.heap.size w w' := by
  go_enter Tryd.func3, Tryd.ntmps3
  go_wp2_with (go_at_call 7; go_in)
  go_ret
  exact ⟨rfl, Below.refl _ _⟩
theorem fnBlocks_all (ad : Option Addr) (len cap : Nat) (w : World) (hs : Draw.Src w w.heap.size ad len) (hT : MixTab w) :
    Calls Tryd.prog 3 #[.slice ad len cap] w fun e w' => e = .returned (.bool true) ∧ Below w.heap.size w w' := by
  by_cases h : len ≤ 1048576
  · exact fnBlocks_law ad len cap w h hs hT
  · exact fnBlocks_big ad len cap w (by omega)
end Go.Proofs.YtepnnmckbcomjaaDoor
