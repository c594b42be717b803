/- Merged texts: TPartE, GrowE, RpMath, GeoI, WordsI, LinI, RdHold, NumImpl, NumImplB, SerImpl, ReadImpl, RdBase, IdxI, AtI, PlAt, PlI, RecImpl, Clone, ReadRecImpl. -/
import Derived.Test.YtkfkjcadmdcbnaaGreatDoorPZE
import Derived.WalkKit
import Derived.WalkSpells
import Derived.WalkLawsBesides
import Derived.Deep.RegionLaw
import Derived.Lib.Hide
import Derived.Lib.SlicesS
import Derived.Test.YtkfkjcadmdcbnaaGreatDoorShelf
namespace Go.Proofs.YtkfkjcadmdcbnaaGreatDoor
open Go.RowKit Go.Proofs.YtkfkjcadmdcbnaaGreatDoor.Parts Go.Proofs.YtkfkjcadmdcbnaaGreatDoor.Hexa

structure PartR where
  ser : Int
  st : List Int
  ino : List InoR
instance : Inhabited PartR := ⟨⟨0, [], []⟩⟩
def cPart : EncC PartR := ⟨52, 3, fun x => [.val (.int .i64 x.ser), celRow cInt x.st, celRow cIno x.ino], fun _ => rfl⟩
theorem infoPartD : (Tryz.prog.info? 52).map (fun i => (i.zero, i.size, i.bytes)) = some (some (.agg #[.int .i64 0, .slice none 0 0, .slice none 0 0]), 3, 56) := by kernel_rfl
theorem cPart_form {w : World} {x : PartR} {vs : List Value} (h : RdL w (cPart.cels x) vs) : ∃ (a1 : Option Addr) (c1 : Nat) (a2 : Option Addr) (c2 : Nat), vs = [.int .i64 x.ser, .slice a1 x.st.length c1, .slice a2 x.ino.length c2] ∧ (celRow cInt x.st).Rd w (.slice a1 x.st.length c1) ∧ (celRow cIno x.ino).Rd w (.slice a2 x.ino.length c2) := by
  obtain ⟨v0, r0, e0, h0, v1, r1, e1, h1, v2, r2, e2, h2, hend⟩ := h
  have f0 : v0 = .int .i64 x.ser := h0
  obtain ⟨a1, n1, c1, f1, g1⟩ := row_form (E := cInt) (L := x.st) h1
  obtain ⟨a2, n2, c2, f2, g2⟩ := row_form (E := cIno) (L := x.ino) h2
  have hend' : r2 = [] := hend
  subst g1 g2
  rw [hend'] at e2
  rw [e2] at e1
  rw [e1] at e0
  rw [f0, f1, f2] at e0
  rw [f1] at h1
  rw [f2] at h2
  exact ⟨a1, c1, a2, c2, e0, h1, h2⟩
theorem cPart_rd {w : World} {x : PartR} {a1 : Option Addr} {c1 : Nat} {a2 : Option Addr} {c2 : Nat} (h1 : (celRow cInt x.st).Rd w (.slice a1 x.st.length c1)) (h2 : (celRow cIno x.ino).Rd w (.slice a2 x.ino.length c2)) : RdL w (cPart.cels x) [.int .i64 x.ser, .slice a1 x.st.length c1, .slice a2 x.ino.length c2] :=
  ⟨_, _, rfl, rfl, ⟨_, _, rfl, h1, ⟨_, _, rfl, h2, rfl⟩⟩⟩
theorem cPart_un {w : World} {x : PartR} {a1 : Option Addr} {c1 : Nat} {a2 : Option Addr} {c2 : Nat} (h : RdL w (cPart.cels x) [.int .i64 x.ser, .slice a1 x.st.length c1, .slice a2 x.ino.length c2]) : (celRow cInt x.st).Rd w (.slice a1 x.st.length c1) ∧ (celRow cIno x.ino).Rd w (.slice a2 x.ino.length c2) := by
  replace h := (rd_cons h).2
  obtain ⟨h1, h⟩ := rd_cons h
  obtain ⟨h2, h⟩ := rd_cons h
  exact ⟨h1, h2⟩
theorem cPart_at {w : World} {L : List PartR} {a : Option Addr} {n c : Nat} (h : (celRow cPart L).Rd w (.slice a n c)) (j : Nat) (hj : j < n) :
    ∃ (g off : Nat) (a1 : Option Addr) (c1 : Nat) (a2 : Option Addr) (c2 : Nat), a = some ⟨g, off, none⟩ ∧ g < w.heap.size ∧ w.cell? ⟨g, off + j * 3, none⟩ = some (.int .i64 (L.getD j default).ser) ∧ w.cell? ⟨g, off + j * 3 + 1, none⟩ = some (.slice a1 (L.getD j default).st.length c1) ∧ w.cell? ⟨g, off + j * 3 + 2, none⟩ = some (.slice a2 (L.getD j default).ino.length c2) ∧ (celRow cInt (L.getD j default).st).Rd w (.slice a1 (L.getD j default).st.length c1) ∧ (celRow cIno (L.getD j default).ino).Rd w (.slice a2 (L.getD j default).ino.length c2) := by
  obtain ⟨g, off, vs, ha, hg, hr, hc⟩ := row_at h (by decide) j hj
  obtain ⟨a1, c1, a2, c2, hv, h1, h2⟩ := cPart_form hr
  subst hv
  exact ⟨g, off, a1, c1, a2, c2, ha, hg, hc 0 _ rfl, hc 1 _ rfl, hc 2 _ rfl, h1, h2⟩
theorem cPart_sz (x : PartR) : szL (cPart.cels x) = (0 + ((celRow cInt x.st).sz + ((celRow cIno x.ino).sz + 0))) := rfl
theorem cPart_cnt (x : PartR) : cntL (cPart.cels x) = (1 + ((celRow cInt x.st).cnt + ((celRow cIno x.ino).cnt + 0))) := rfl

end Go.Proofs.YtkfkjcadmdcbnaaGreatDoor
namespace Go.Proofs.YtkfkjcadmdcbnaaGreatDoor
open Go.RowKit Go.Proofs.YtkfkjcadmdcbnaaGreatDoor.Parts Go.Proofs.YtkfkjcadmdcbnaaGreatDoor.Hexa

/-- The row and its elements' rows lie between the blocks B and T, all apart. -/
structure GrowE {α : Type} (E : EncC α) (L : List α) (w : World) (B T : Nat) (v : Value) : Prop where
  ex : ∃ xs G, w.ownsRow B E.e E.k v L.length xs ∧ OwnL w (celsE E L) G xs ∧ G.Nodup ∧ (∀ g ∈ G, B ≤ g ∧ g < T) ∧ (∀ q, v.ownBlock = some q → q < T ∧ q ∉ G)
  top : T ≤ w.heap.size
section
variable {α : Type} {E : EncC α} {L : List α} {w w' w2 : World} {B T lo hi : Nat} {v v2 : Value} {x : α} {vs xs : List Value} {G : List Nat}
theorem GrowE.nil (w : World) (B : Nat) : GrowE E [] w B 0 (.slice none 0 0) := by
  refine ⟨⟨[], [], World.ownsRow_nil _ _ _ _, ?_, List.nodup_nil, fun g hg => (by cases hg), fun q hq => (by cases hq)⟩, Nat.zero_le _⟩
  exact ⟨rfl, rfl⟩
theorem GrowE.later (h : GrowE E L w B T v) (hb : Below w.heap.size w w') : GrowE E L w' B T v := by
  obtain ⟨⟨xs, G, h1, h2, h3, h4, h5⟩, h6⟩ := h
  exact ⟨⟨xs, G, own_below h1 hb, OwnL.kept _ _ _ (fun g hg => hb.block g (by have := (h4 g hg).2; omega)) h2, h3, h4, h5⟩, Nat.le_trans h6 hb.size⟩
theorem GrowE.step (h1 : w.ownsRow B E.e E.k v L.length xs) (h2 : OwnL w (celsE E L) G xs) (h3 : G.Nodup) (h4 : ∀ g ∈ G, B ≤ g ∧ g < T) (h5 : ∀ q, v.ownBlock = some q → q < T ∧ q ∉ G)
    (ho : Objs w lo hi (E.cels x) vs) (hlo : T ≤ lo) (hB : B ≤ lo) (hhi : hi ≤ w.heap.size) (k1 : w2.ownsRow B E.e E.k v2 (L.length + 1) (xs ++ vs)) (k2 : w.grownBy w2 v.ownBlock) (k3 : v2.ownBlock = v.ownBlock ∨ v2.ownBlock = some w.heap.size) (hT : T ≤ w.heap.size) : GrowE E (L ++ [x]) w2 B w2.heap.size v2 := by
  obtain ⟨F, f1, f2, f3⟩ := ho
  have hs : w.heap.size ≤ w2.heap.size := k2.size
  have e9 : celsE E (L ++ [x]) = celsE E L ++ E.cels x := by rw [celsE_append, celsE, celsE, List.append_nil]
  have kG : ∀ g ∈ G, w2.heap[g]? = w.heap[g]? := fun g hg => k2.block g (by have := (h4 g hg).2; omega) (fun e => (h5 g e.symm).2 hg)
  have kF : ∀ g ∈ F, w2.heap[g]? = w.heap[g]? := fun g hg => k2.block g (by have := (f2 g hg).2; omega) (fun e => by have := (h5 g e.symm).1; have := (f2 g hg).1; omega)
  refine ⟨⟨xs ++ vs, G ++ F, by rw [List.length_append]; exact k1, ?_, ?_, ?_, ?_⟩, Nat.le_refl _⟩
  · rw [e9]
    exact OwnL.append _ _ _ _ _ _ (OwnL.kept _ _ _ kG h2) (OwnL.kept _ _ _ kF f3)
  · refine List.nodup_append.2 ⟨h3, f1, fun a ha b hb e => ?_⟩
    subst e
    have := (h4 a ha).2
    have := (f2 a hb).1
    omega
  · intro g hg
    rcases List.mem_append.1 hg with hg | hg
    · have := h4 g hg; omega
    · have := f2 g hg; omega
  · intro q hq
    rcases k3 with k3 | k3
    · rw [k3] at hq
      have h9 := h5 q hq
      refine ⟨by omega, fun hm => ?_⟩
      rcases List.mem_append.1 hm with hm | hm
      · exact h9.2 hm
      · have := (f2 q hm).1; omega
    · rw [k3] at hq
      cases hq
      refine ⟨(k1.lt _ k3).2, fun hm => ?_⟩
      rcases List.mem_append.1 hm with hm | hm
      · have := (h4 _ hm).2; omega
      · have := (f2 _ hm).2; omega
theorem GrowE.done (h : GrowE E L w B T v) : Obj1 w B w.heap.size (celRow E L) v := by
  obtain ⟨⟨xs, G, h1, h2, h3, h4, h5⟩, h6⟩ := h
  exact obj_of_row h1 (celsE_length E L) h2 h3 (fun g hg => by have := h4 g hg; omega) (fun g hg => ⟨(h5 g hg).2, (h1.lt g hg).1, (h1.lt g hg).2⟩)
end
/-- An inode appended to a row of inodes. -/
theorem appIno1 (w : World) (ty : TypeId) (B : Nat) (v : Value) (n : Nat) (xs : List Value) (hown : w.ownsRow B 102 6 v n xs) (hB : B ≤ w.heap.size) (kd sz gn : Int) (key : ByteArray) (aR aE : Option Addr) (nR cR nE cE : Nat) (hn : n ≤ 100000) :
    AppE Tryz.prog #[50, 50] ty #[v, .slice (some ⟨w.heap.size, 0, none⟩) 1 1] (w.alloc (.cells #[.int .i64 kd, .int .i64 sz, .int .i64 gn, .string key, .slice aR nR cR, .slice aE nE cE] 102)) B 102 6 (n + 1) (xs ++ [.int .i64 kd, .int .i64 sz, .int .i64 gn, .string key, .slice aR nR cR, .slice aE nE cE]) v := by
  obtain ⟨i0, hi, hz0, hz1, hz2⟩ := info_parts infoInoD
  obtain ⟨v', w', hr, h2, h3, _, h5⟩ := run_append_own_at (P := Tryz.prog) (w := w.alloc (.cells #[.int .i64 kd, .int .i64 sz, .int .i64 gn, .string key, .slice aR nR cR, .slice aE nE cE] 102)) B 50 ty 102 i0 _ 6 88 Tryz.underlying50 hi hz0 hz1 hz2 rfl (by decide) v n _ (own_below hown ((Below.refl _ _).alloc (Nat.le_refl _) _)) ⟨w.heap.size, 0, none⟩ 1 1 [.int .i64 kd, .int .i64 sz, .int .i64 gn, .string key, .slice aR nR cR, .slice aE nE cE] rfl (World.news_of_block (heap_alloc_new _ _)) (by simp [Value.oneCell']) (by unfold maxLen; omega) (by omega) (by simp; omega)
  exact ⟨v', w', hr, h2, h3, h5⟩
theorem cellsE_vals {α : Type} (E : Enc α) (C : EncC α) (h : ∀ x, C.cels x = (E.cells x).map .val) : ∀ L : List α, celsE C L = (cellsE E L).map .val
  | [] => rfl
  | x :: r => by rw [celsE, cellsE, List.map_append, ← h, cellsE_vals E C h r]
/-- A row of plain cells, as an object. -/
theorem obj_plain {w : World} {B e k n : Nat} {v : Value} {xs : List Value} (ho : w.ownsRow B e k v n xs) (hl : xs.length = n * k) : Obj1 w B w.heap.size (.sl e k n (xs.map .val)) v :=
  obj_of_row ho (by rw [List.length_map]; exact hl) (own_vals xs) List.nodup_nil (fun g hg => by cases hg) (fun g hg => ⟨fun h => (by cases h), (ho.lt g hg).1, (ho.lt g hg).2⟩)
/-- A row without a block is an object anywhere. -/
theorem obj_none {w : World} {lo hi lo' hi' e k n m c : Nat} {cs : List Cel} (h : Obj1 w lo hi (.sl e k n cs) (.slice none m c)) : Obj1 w lo' hi' (.sl e k n cs) (.slice none m c) := by
  obtain ⟨F, _, _, h3⟩ := h
  have hF : F = [] := by
    obtain ⟨_, a, c', hv, _, _, h4⟩ := h3
    cases hv
    rcases h4 with h4 | ⟨g, _, _, ha, _⟩
    · exact h4.2
    · cases ha
  subst hF
  exact ⟨[], List.nodup_nil, fun g hg => (by cases hg), h3⟩
/-- An inode of which one row at most has a block, as an object. -/
theorem obj_ino {w : World} {B : Nat} {x : InoR} {aR aE : Option Addr} {cR cE : Nat} (h1 : w.ownsRow B 139 3 (.slice aR x.R.length cR) x.R.length (Go.Proofs.YtkfkjcadmdcbnaaGreatDoor.cellsE encRec x.R)) (h2 : w.ownsRow B 143 2 (.slice aE x.E.length cE) x.E.length (Go.Proofs.YtkfkjcadmdcbnaaGreatDoor.cellsE encEntry x.E)) (h3 : aR = none ∨ aE = none) (hB : B ≤ w.heap.size) :
    Objs w B w.heap.size (cIno.cels x) [.int .i64 x.kd, .int .i64 x.sz, .int .i64 x.gn, .string x.key, .slice aR x.R.length cR, .slice aE x.E.length cE] := by
  have o1 : Obj1 w B w.heap.size (celRow cRec x.R) (.slice aR x.R.length cR) := by
    have h := obj_plain h1 (by rw [cellsE_length]; rfl)
    unfold celRow
    rw [cellsE_vals encRec cRec (fun _ => rfl)]
    exact h
  have o2 : Obj1 w B w.heap.size (celRow cEntry x.E) (.slice aE x.E.length cE) := by
    have h := obj_plain h2 (by rw [cellsE_length]; rfl)
    unfold celRow
    rw [cellsE_vals encEntry cEntry (fun _ => rfl)]
    exact h
  rcases h3 with rfl | rfl
  · exact Objs.val (Objs.val (Objs.val (Objs.val (Objs.cons (mid := B) (mid' := B) (obj_none o1) (Objs.one o2) (Nat.le_refl _) (Nat.le_refl _) hB) _) _) _) _
  · exact Objs.val (Objs.val (Objs.val (Objs.val (Objs.cons (mid := w.heap.size) (mid' := w.heap.size) o1 (Objs.one (obj_none o2)) (Nat.le_refl _) hB (Nat.le_refl _)) _) _) _) _
end Go.Proofs.YtkfkjcadmdcbnaaGreatDoor
namespace Go.Proofs.YtkfkjcadmdcbnaaGreatDoor
open Go.RowKit Go.Proofs.YtkfkjcadmdcbnaaGreatDoor.Parts Go.Proofs.YtkfkjcadmdcbnaaGreatDoor.Hexa Go.Proofs.YtkfkjcadmdcbnaaGreatDoor.Byt

section
variable (K : ByteArray) (L : List C3) (T P I Q t : Int)
noncomputable def rpHas : Bool := decide (GeoR T P I Q ∧ 0 ≤ t ∧ t ≤ T - 1) && (memOkB K L && decide (linesV T P I Q * 16 ≤ (K.size : Int)))
noncomputable def rpWord : ByteArray := wordAtB K L (placeV T P I Q t 2)
noncomputable def rpSer : Int := numAtV (rpWord K L T P I Q t) 0 3
noncomputable def rpSerB : Bool := decide (serB (rpSer K L T P I Q t) = rpWord K L T P I Q t)
noncomputable def rpStW : List ByteArray := rdWords K L (placeV T P I Q t 36) 2
noncomputable def rpSt : List Int := rdR (rpStW K L T P I Q t) P
noncomputable def rpStB : Bool := rdB (rpStW K L T P I Q t) P
noncomputable def rpInW (i : Int) : List ByteArray := rdWords K L (inodV T P I Q t i) 8
noncomputable def rpIno (i : Int) : InoR := readInoR (rpInW K L T P I Q t i)
noncomputable def rpInoB (i : Int) : Bool := readInoB (rpInW K L T P I Q t i)
noncomputable def rpInos (n : Nat) : List InoR := (List.range n).map fun (i : Nat) => rpIno K L T P I Q t i
noncomputable def rpAll (n : Nat) : Bool := (List.range n).all fun (i : Nat) => rpInoB K L T P I Q t i
noncomputable def rpB : Bool := rpHas K L T P I Q t && (rpSerB K L T P I Q t && rpStB K L T P I Q t) && rpAll K L T P I Q t I.toNat
noncomputable def rpR : PartR := if rpB K L T P I Q t = true then ⟨rpSer K L T P I Q t, rpSt K L T P I Q t, rpInos K L T P I Q t I.toNat⟩ else ⟨0, [], []⟩
variable {K L T P I Q t}
theorem rpInos_succ (n : Nat) : rpInos K L T P I Q t (n + 1) = rpInos K L T P I Q t n ++ [rpIno K L T P I Q t n] := by unfold rpInos; rw [List.range_succ, List.map_append]; rfl
theorem rpInos_len (n : Nat) : (rpInos K L T P I Q t n).length = n := by simp [rpInos]
theorem rpAll_succ (n : Nat) : rpAll K L T P I Q t (n + 1) = (rpAll K L T P I Q t n && rpInoB K L T P I Q t n) := by unfold rpAll; rw [List.range_succ, List.all_append]; simp
theorem rpAll_bad {n m : Nat} (h : n < m) (hb : rpInoB K L T P I Q t n = false) : rpAll K L T P I Q t m = false := by
  unfold rpAll
  rw [List.all_eq_false]
  exact ⟨n, by simpa using h, by rw [hb]; simp⟩
theorem rpB_has (h : rpHas K L T P I Q t = false) : rpB K L T P I Q t = false := by unfold rpB; rw [h]; rfl
theorem rpB_head (h : (rpSerB K L T P I Q t && rpStB K L T P I Q t) = false) : rpB K L T P I Q t = false := by unfold rpB; rw [h, Bool.and_false]; rfl
theorem rpB_all (h : rpAll K L T P I Q t I.toNat = false) : rpB K L T P I Q t = false := by unfold rpB; rw [h, Bool.and_false]
theorem rpB_yes (h1 : rpHas K L T P I Q t = true) (h2 : (rpSerB K L T P I Q t && rpStB K L T P I Q t) = true) (h3 : rpAll K L T P I Q t I.toNat = true) : rpB K L T P I Q t = true := by unfold rpB; rw [h1, h2, h3]; rfl
theorem rpHas_geo (h : rpHas K L T P I Q t = true) : (GeoR T P I Q ∧ 0 ≤ t ∧ t ≤ T - 1) ∧ MemOk K L ∧ linesV T P I Q * 16 ≤ (K.size : Int) := by
  unfold rpHas at h
  rw [Bool.and_eq_true, Bool.and_eq_true] at h
  exact ⟨of_decide_eq_true h.1, memOkB_iff.1 h.2.1, of_decide_eq_true h.2.2⟩
theorem wordAtB_size (i : Int) : (wordAtB K L i).size ≤ 8 := by
  unfold wordAtB
  split
  · unfold wordT
    rw [ByteArray.size_extract]
    omega
  · decide
theorem rdWords_size (a : Int) (n j : Nat) (hj : j < n) : ((rdWords K L a n).getD j default).size ≤ 8 := by
  have e : (rdWords K L a n).getD j default = wordAtB K L (a + (j : Int)) := by simp [rdWords, List.getD, hj]
  rw [e]
  exact wordAtB_size _
/-- A partition and whether it is there. -/
def GivesPart (p : PartR) (b : Bool) (w : World) (e : Ending) (w' : World) : Prop :=
  ∃ vs : List Value, e = .returned (.tuple #[.agg ⟨vs⟩, .bool b]) ∧ Objs w' w.heap.size w'.heap.size (cPart.cels p) vs ∧ Below w.heap.size w w'
end
theorem objs_zero (w : World) (lo hi : Nat) : Objs w lo hi (cPart.cels ⟨0, [], []⟩) [.int .i64 0, .slice none 0 0, .slice none 0 0] := by
  refine Objs.val ?_ _
  refine ⟨[], List.nodup_nil, fun g hg => (by cases hg), ?_⟩
  refine ⟨_, _, [], [], rfl, rfl, ⟨rfl, none, 0, rfl, Nat.le_refl _, by decide, .inl ⟨rfl, rfl⟩⟩, _, [], [], [], rfl, rfl, ⟨rfl, none, 0, rfl, Nat.le_refl _, by decide, .inl ⟨rfl, rfl⟩⟩, rfl, rfl⟩
theorem gives_nopart {w w' : World} {K : ByteArray} {L : List C3} {T P I Q t : Int} (h : rpB K L T P I Q t = false) (hb : Below w.heap.size w w') : GivesPart (rpR K L T P I Q t) (rpB K L T P I Q t) w (.returned (.tuple #[.agg #[.int .i64 0, .slice none 0 0, .slice none 0 0], .bool false])) w' := by
  have hr : rpR K L T P I Q t = ⟨0, [], []⟩ := by unfold rpR; rw [h, if_neg (by simp)]
  exact ⟨_, by rw [h], by rw [hr]; exact objs_zero _ _ _, hb⟩
end Go.Proofs.YtkfkjcadmdcbnaaGreatDoor
namespace Go.Proofs.YtkfkjcadmdcbnaaGreatDoor
open Go.RowKit

set_option maxRecDepth 100000 in
set_option maxHeartbeats 1000000 in
theorem implGeo_yes (T P I Q : Int) (w : World) (h : GeoR T P I Q) : Calls Tryz.prog 49 #[.agg #[.int .i64 T, .int .i64 P, .int .i64 I, .int .i64 Q]] w (SaysB true w) := by
  obtain ⟨a1, a2, b1, b2, c1, c2, d1, d2⟩ := h
  have H1 : (1 : Int) ≤ T ∧ T ≤ 3 := ⟨a1, a2⟩
  have H2 : (5 : Int) ≤ P ∧ P ≤ 12 := ⟨b1, b2⟩
  have H3 : (2 : Int) ≤ I ∧ I ≤ 6 := ⟨c1, c2⟩
  have H4 : (1 : Int) ≤ Q ∧ Q ≤ P - 4 := ⟨d1, d2⟩
  go_enter Tryz.func49, Tryz.ntmps49
  go_wp2_with (first | ((with_reducible refine (implIn_yes _ H1).mono ?_); rintro e w1 ⟨rfl, rfl⟩) | ((with_reducible refine (implIn_yes _ H2).mono ?_); rintro e w1 ⟨rfl, rfl⟩) | ((with_reducible refine (implIn_yes _ H3).mono ?_); rintro e w1 ⟨rfl, rfl⟩) | ((with_reducible refine (implIn_yes _ H4).mono ?_); rintro e w1 ⟨rfl, rfl⟩))
  go_ret
  exact ⟨rfl, below_al w _⟩
set_option maxRecDepth 100000 in
set_option maxHeartbeats 1000000 in
theorem implGeo_no (T P I Q : Int) (w : World) (h : ¬ GeoR T P I Q) : Calls Tryz.prog 49 #[.agg #[.int .i64 T, .int .i64 P, .int .i64 I, .int .i64 Q]] w (SaysB false w) := by
  rcases geo_cases h with H1 | ⟨H1, H2⟩ | ⟨H1, H2, H3⟩ | ⟨H1, H2, H3, H4⟩
  · go_enter Tryz.func49, Tryz.ntmps49
    go_wp2_with ((with_reducible refine (implIn_no _ H1).mono ?_); rintro e w1 ⟨rfl, rfl⟩)
    go_ret
    exact ⟨rfl, below_al w _⟩
  · go_enter Tryz.func49, Tryz.ntmps49
    go_wp2_with (first | ((with_reducible refine (implIn_yes _ H1).mono ?_); rintro e w1 ⟨rfl, rfl⟩) | ((with_reducible refine (implIn_no _ H2).mono ?_); rintro e w1 ⟨rfl, rfl⟩))
    go_ret
    exact ⟨rfl, below_al w _⟩
  · go_enter Tryz.func49, Tryz.ntmps49
    go_wp2_with (first | ((with_reducible refine (implIn_yes _ H1).mono ?_); rintro e w1 ⟨rfl, rfl⟩) | ((with_reducible refine (implIn_yes _ H2).mono ?_); rintro e w1 ⟨rfl, rfl⟩) | ((with_reducible refine (implIn_no _ H3).mono ?_); rintro e w1 ⟨rfl, rfl⟩))
    go_ret
    exact ⟨rfl, below_al w _⟩
  · obtain ⟨b1, b2⟩ := H2
    have H2 : (5 : Int) ≤ P ∧ P ≤ 12 := ⟨b1, b2⟩
    go_enter Tryz.func49, Tryz.ntmps49
    go_wp2_with (first | ((with_reducible refine (implIn_yes _ H1).mono ?_); rintro e w1 ⟨rfl, rfl⟩) | ((with_reducible refine (implIn_yes _ H2).mono ?_); rintro e w1 ⟨rfl, rfl⟩) | ((with_reducible refine (implIn_yes _ H3).mono ?_); rintro e w1 ⟨rfl, rfl⟩) | ((with_reducible refine (implIn_no _ H4).mono ?_); rintro e w1 ⟨rfl, rfl⟩))
    go_ret
    exact ⟨rfl, below_al w _⟩
end Go.Proofs.YtkfkjcadmdcbnaaGreatDoor
namespace Go.Proofs.YtkfkjcadmdcbnaaGreatDoor
open Go.RowKit

/-- Where the pages begin: some number, whatever the layout. -/
def SaysAny (w : World) (e : Ending) (w' : World) : Prop := ∃ n : Int, e = .returned (.int .i64 n) ∧ Below w.heap.size w w'
set_option maxRecDepth 100000 in
set_option maxHeartbeats 1000000 in
theorem implPages_yes (T P I Q : Int) (h : GeoR T P I Q) (w : World) : Calls Tryz.prog 225 #[.agg #[.int .i64 T, .int .i64 P, .int .i64 I, .int .i64 Q]] w (SaysI (38 + 8 * I) w) := by
  have T0 := Lib.hid (Four.alloc w T P I Q 25)
  have B0 := Lib.hid (below_al w (.cells #[.int .i64 T, .int .i64 P, .int .i64 I, .int .i64 Q] 25))
  have HG := Lib.hid h
  obtain ⟨g1, g2, g3, g4, g5, g6, g7, g8⟩ := h
  go_enter Tryz.func225, Tryz.ntmps225
  go_wp2
  go_ret
  exact ⟨rfl, B0.out⟩
set_option maxRecDepth 100000 in
set_option maxHeartbeats 1000000 in
theorem implPagesPl_any (T P I Q : Int) (w : World) : Calls Tryz.prog 225 #[.agg #[.int .i64 T, .int .i64 P, .int .i64 I, .int .i64 Q]] w (SaysAny w) := by
  have T0 := Lib.hid (Four.alloc w T P I Q 25)
  have B0 := Lib.hid (below_al w (.cells #[.int .i64 T, .int .i64 P, .int .i64 I, .int .i64 Q] 25))
  go_enter Tryz.func225, Tryz.ntmps225
  go_wp2
  go_ret
  exact ⟨_, rfl, B0.out⟩
set_option maxRecDepth 100000 in
set_option maxHeartbeats 1000000 in
theorem implPW_no (T P I Q : Int) (h : ¬ GeoR T P I Q) (w : World) : Calls Tryz.prog 171 #[.agg #[.int .i64 T, .int .i64 P, .int .i64 I, .int .i64 Q]] w (SaysI 0 w) := by
  have T0 := Lib.hid (Four.alloc w T P I Q 25)
  have B0 := Lib.hid (below_al w (.cells #[.int .i64 T, .int .i64 P, .int .i64 I, .int .i64 Q] 25))
  have HG := Lib.hid h
  clear h
  go_enter Tryz.func171, Tryz.ntmps171
  go_wp2_with fail
  refine (implGeo_no T P I Q _ HG.out).mono ?_
  rintro e w1 ⟨rfl, hb⟩
  have T1 := Lib.hid (T0.out.later hb)
  have B1 : Hid (Below w.heap.size w w1) := Lib.hid (B0.out.trans (hb.mono B0.out.size))
  clear hb
  have c0 := T1.out.c0
  have c1 := T1.out.c1
  have c2 := T1.out.c2
  have c3 := T1.out.c3
  go_wp2
  go_ret
  exact ⟨rfl, B1.out⟩
set_option maxRecDepth 100000 in
set_option maxHeartbeats 1000000 in
theorem implPW_yes (T P I Q : Int) (h : GeoR T P I Q) (w : World) : Calls Tryz.prog 171 #[.agg #[.int .i64 T, .int .i64 P, .int .i64 I, .int .i64 Q]] w (SaysI (wordsOf P I) w) := by
  have T0 := Lib.hid (Four.alloc w T P I Q 25)
  have B0 := Lib.hid (below_al w (.cells #[.int .i64 T, .int .i64 P, .int .i64 I, .int .i64 Q] 25))
  have HG := Lib.hid h
  obtain ⟨g1, g2, g3, g4, g5, g6, g7, g8⟩ := h
  go_enter Tryz.func171, Tryz.ntmps171
  go_wp2_with fail
  refine (implGeo_yes T P I Q _ HG.out).mono ?_
  rintro e w1 ⟨rfl, hb⟩
  have T1 := Lib.hid (T0.out.later hb)
  have B1 : Hid (Below w.heap.size w w1) := Lib.hid (B0.out.trans (hb.mono B0.out.size))
  clear hb
  have c0 := T1.out.c0
  have c1 := T1.out.c1
  have c2 := T1.out.c2
  have c3 := T1.out.c3
  have e1 : IntKind.i64.wrap (4 * P) = 4 * P := IntWalk.i64_in _ (by omega)
  have e2 : IntKind.i64.wrap (38 + 8 * I + 4 * P) = 38 + 8 * I + 4 * P := IntWalk.i64_in _ (by omega)
  go_wp2_with fail
  go_region_with (go_at_call 225; refine (implPages_yes T P I Q HG.out _).mono ?_; rintro e w2 ⟨rfl, hb⟩; have T2 := Lib.hid (T1.out.drew.later hb); have y0 := T2.out.c0; have y1 := T2.out.c1; have y2 := T2.out.c2; have y3 := T2.out.c3; have B2 : Hid (Below w.heap.size w w2) := Lib.hid (B1.out.drew.trans (hb.mono B1.out.size)); clear hb)
  all_goals
    go_wp2
    go_ret
    exact ⟨rfl, B2.out⟩
end Go.Proofs.YtkfkjcadmdcbnaaGreatDoor
namespace Go.Proofs.YtkfkjcadmdcbnaaGreatDoor
open Go.RowKit

set_option maxRecDepth 100000 in
set_option maxHeartbeats 1000000 in
theorem implLines_yes (T P I Q : Int) (h : GeoR T P I Q) (w : World) : Calls Tryz.prog 131 #[.agg #[.int .i64 T, .int .i64 P, .int .i64 I, .int .i64 Q]] w (SaysI (linesV T P I Q) w) := by
  have T0 := Lib.hid (Four.alloc w T P I Q 25)
  have B0 := Lib.hid (below_al w (.cells #[.int .i64 T, .int .i64 P, .int .i64 I, .int .i64 Q] 25))
  have HL : Hid (linesV T P I Q = T * wordsOf P I / 2) := Lib.hid (if_pos h)
  obtain ⟨W, hW⟩ : ∃ W, wordsOf P I = W := ⟨_, rfl⟩
  have HG := Lib.hid h
  obtain ⟨g1, g2, g3, g4, g5, g6, g7, g8⟩ := h
  have hw0 : 0 ≤ W ∧ W ≤ 134 := by unfold wordsOf at hW; omega
  have hm := Plc.mul_bd (T := T) (by omega) (by omega) hw0.1 hw0.2
  obtain ⟨m1, m2⟩ := hm
  obtain ⟨W1, W2⟩ := hw0
  rw [hW] at HL
  have HW := Lib.hid hW
  clear hW
  have e1 : IntKind.i64.wrap (T * W) = T * W := IntWalk.i64_in _ (by omega)
  have e2 : (T * W).tdiv 2 = T * W / 2 := Int.tdiv_eq_ediv_of_nonneg m1
  have e3 : IntKind.i64.wrap (T * W / 2) = T * W / 2 := IntWalk.i64_in _ (by omega)
  go_enter Tryz.func131, Tryz.ntmps131
  go_wp2_with fail
  refine (implGeo_yes T P I Q _ HG.out).mono ?_
  rintro e w1 ⟨rfl, hb⟩
  have T1 := Lib.hid (T0.out.later hb)
  have B1 : Hid (Below w.heap.size w w1) := Lib.hid (B0.out.trans (hb.mono B0.out.size))
  clear hb
  have c0 := T1.out.c0
  have c1 := T1.out.c1
  have c2 := T1.out.c2
  have c3 := T1.out.c3
  go_wp2_with fail
  go_region_with (go_at_call 171; refine (implPW_yes T P I Q HG.out _).mono ?_; rw [HW.out]; rintro e w2 ⟨rfl, hb⟩; have T2 := Lib.hid (T1.out.drew.later hb); have y0 := T2.out.c0; have y1 := T2.out.c1; have y2 := T2.out.c2; have y3 := T2.out.c3; have B2 : Hid (Below w.heap.size w w2) := Lib.hid (B1.out.drew.trans (hb.mono B1.out.size)); clear hb)
  all_goals
    go_wp2
    go_ret
    exact ⟨by rw [HL.out]; rfl, B2.out⟩
set_option maxRecDepth 100000 in
set_option maxHeartbeats 1000000 in
theorem implLines_no (T P I Q : Int) (h : ¬ GeoR T P I Q) (w : World) : Calls Tryz.prog 131 #[.agg #[.int .i64 T, .int .i64 P, .int .i64 I, .int .i64 Q]] w (SaysI 0 w) := by
  have T0 := Lib.hid (Four.alloc w T P I Q 25)
  have B0 := Lib.hid (below_al w (.cells #[.int .i64 T, .int .i64 P, .int .i64 I, .int .i64 Q] 25))
  have HG := Lib.hid h
  clear h
  go_enter Tryz.func131, Tryz.ntmps131
  go_wp2_with fail
  refine (implGeo_no T P I Q _ HG.out).mono ?_
  rintro e w1 ⟨rfl, hb⟩
  have T1 := Lib.hid (T0.out.later hb)
  have B1 : Hid (Below w.heap.size w w1) := Lib.hid (B0.out.trans (hb.mono B0.out.size))
  clear hb
  have c0 := T1.out.c0
  have c1 := T1.out.c1
  have c2 := T1.out.c2
  have c3 := T1.out.c3
  go_wp2
  go_ret
  exact ⟨rfl, B1.out⟩
theorem implLines_any (T P I Q : Int) (w : World) : Calls Tryz.prog 131 #[.agg #[.int .i64 T, .int .i64 P, .int .i64 I, .int .i64 Q]] w (SaysI (linesV T P I Q) w) := by
  by_cases hg : GeoR T P I Q
  · exact implLines_yes T P I Q hg w
  · rw [linesV_no hg]; exact implLines_no T P I Q hg w
end Go.Proofs.YtkfkjcadmdcbnaaGreatDoor
namespace Go.Proofs.YtkfkjcadmdcbnaaGreatDoor
open Go.RowKit Go.Proofs.YtkfkjcadmdcbnaaGreatDoor.Parts Go.Proofs.YtkfkjcadmdcbnaaGreatDoor.Hexa

theorem ret_boolh {a b : Bool} (h : a = b) : Ending.returned (.bool a) = .returned (.bool b) := by rw [h]
set_option maxRecDepth 100000 in
set_option maxHeartbeats 2000000 in
theorem implHolds_any (K : ByteArray) (a : Option Addr) (n c : Nat) (L : List C3) (T P I Q : Int) (w : World) (hs : SrcC w a n L) (hn : n ≤ 1048600) (hK : K.size ≤ 1048600) :
    Calls Tryz.prog 75 #[.agg #[.string K, .slice a n c], .agg #[.int .i64 T, .int .i64 P, .int .i64 I, .int .i64 Q]] w (SaysB (memOkB K L && decide (linesV T P I Q * 16 ≤ (K.size : Int))) w) := by
  have hb1 := below_bk w (.cells #[.string K, .slice a n c] 57)
  have hb2 := below_bk (w.alloc (.cells #[.string K, .slice a n c] 57)) (.cells #[.int .i64 T, .int .i64 P, .int .i64 I, .int .i64 Q] 25)
  have hb0 := hb1.trans (hb2.mono hb1.size)
  have MD := Lib.hid ((Bk.alloc w #[.string K, .slice a n c] 57).later hb2).drew
  have GD : Hid (Four ((w.alloc (.cells #[.string K, .slice a n c] 57)).alloc (.cells #[.int .i64 T, .int .i64 P, .int .i64 I, .int .i64 Q] 25)).drew (w.heap.size + 1) T P I Q 25) := Lib.hid (by
    have h := (Four.alloc (w.alloc (.cells #[.string K, .slice a n c] 57)) T P I Q 25).drew
    simpa using h)
  have HS := Lib.hid hs
  obtain ⟨l, hl⟩ : ∃ l, linesV T P I Q = l := ⟨_, rfl⟩
  obtain ⟨b, hb⟩ : ∃ b, memOkB K L = b := ⟨_, rfl⟩
  have HL := Lib.hid hl
  have HB := Lib.hid hb
  have hlb : 0 ≤ l ∧ l ≤ 201 := by
    by_cases h : GeoR T P I Q
    · have := linesV_yes h; omega
    · have := linesV_no h; omega
  rw [hl, hb]
  clear hs hb1 hb2 hl hb
  obtain ⟨W0, hW0⟩ : ∃ y, y = (w.alloc (.cells #[.string K, .slice a n c] 57)).alloc (.cells #[.int .i64 T, .int .i64 P, .int .i64 I, .int .i64 Q] 25) := ⟨_, rfl⟩
  rw [← hW0] at MD GD
  have HW0 := Lib.hid hW0
  have BN : Hid (Below w.heap.size w W0) := Lib.hid (by rw [hW0]; exact hb0)
  have LT : Hid (w.heap.size < W0.heap.size ∧ w.heap.size + 1 < W0.heap.size) := Lib.hid (by rw [hW0]; exact ⟨by simp; omega, by simp⟩)
  clear hW0 hb0
  have Q0 : Hid (∀ g : GrownW W0, Calls Tryz.prog 130 #[.agg #[.string K, .slice a n c]] g.wd fun e w' => e = .returned (.bool b) ∧ Below g.wd.heap.size g.wd w') := Lib.hid (fun g => by
    have h := implOk_any K a n c L g.wd (HS.out.below (BN.out.trans (g.grown.mono BN.out.size)) (Nat.le_refl _)) hn hK
    rw [HB.out] at h
    exact h)
  have Q1 : Hid (∀ g : GrownW W0, Calls Tryz.prog 131 #[.agg #[.int .i64 T, .int .i64 P, .int .i64 I, .int .i64 Q]] g.wd fun e w' => e = .returned (.int .i64 l) ∧ Below g.wd.heap.size g.wd w') := Lib.hid (fun g => by
    have h := implLines_any T P I Q g.wd
    rw [HL.out] at h
    exact h)
  have c0 : W0.cell? ⟨w.heap.size, 0, none⟩ = some (.string K) := MD.out.cell (j := 0) rfl
  have c1 : W0.cell? ⟨w.heap.size, 1, none⟩ = some (.slice a n c) := MD.out.cell (j := 1) rfl
  have x0 : W0.cell? ⟨w.heap.size + 1, 0, none⟩ = some (.int .i64 T) := GD.out.c0
  have x1 : W0.cell? ⟨w.heap.size + 1, 1, none⟩ = some (.int .i64 P) := GD.out.c1
  have x2 : W0.cell? ⟨w.heap.size + 1, 2, none⟩ = some (.int .i64 I) := GD.out.c2
  have x3 : W0.cell? ⟨w.heap.size + 1, 3, none⟩ = some (.int .i64 Q) := GD.out.c3
  have y0 := GrownW.cell c0 LT.out.1
  have y1 := GrownW.cell c1 LT.out.1
  have y2 := GrownW.cell x0 LT.out.2
  have y3 := GrownW.cell x1 LT.out.2
  have y4 := GrownW.cell x2 LT.out.2
  have y5 := GrownW.cell x3 LT.out.2
  clear c0 c1 x0 x1 x2 x3
  have hm : IntKind.i64.wrap (l * 16) = l * 16 := IntWalk.i64_in _ (by omega)
  cases b with
  | false =>
    go_enter Tryz.func75, Tryz.ntmps75
    go_wp2
    rw [← HW0.out]
    refine wp_region_grown (by kernel_rfl) (by kernel_rfl) ?_
    repeat (go_big_quiet_step (first | (go_at_call 130; exact Calls.grown_of (Q0.out _)) | (go_at_call 131; exact Calls.grown_of (Q1.out _))))
    refine wpQuiet_nil ?_
    rintro _ ⟨gq, rfl⟩
    have BQ := Lib.hid (BN.out.trans (gq.grown.mono BN.out.size))
    clear y0 y1 y2 y3 y4 y5
    go_wp2
    go_ret
    exact ⟨rfl, BQ.out⟩
  | true =>
    by_cases hq : l * 16 ≤ (K.size : Int)
    · have H := Lib.hid (decide_eq_true hq)
      go_enter Tryz.func75, Tryz.ntmps75
      go_wp2
      rw [← HW0.out]
      refine wp_region_grown (by kernel_rfl) (by kernel_rfl) ?_
      repeat (go_big_quiet_step (first | (go_at_call 130; exact Calls.grown_of (Q0.out _)) | (go_at_call 131; exact Calls.grown_of (Q1.out _))))
      refine wpQuiet_nil ?_
      rintro _ ⟨gq, rfl⟩
      have BQ := Lib.hid (BN.out.trans (gq.grown.mono BN.out.size))
      clear y0 y1 y2 y3 y4 y5
      go_wp2
      go_ret
      exact ⟨ret_boolh (by first | rfl | (rw [H.out]; rfl) | simp [hq]), BQ.out⟩
    · have H := Lib.hid (decide_eq_false hq)
      go_enter Tryz.func75, Tryz.ntmps75
      go_wp2
      rw [← HW0.out]
      refine wp_region_grown (by kernel_rfl) (by kernel_rfl) ?_
      repeat (go_big_quiet_step (first | (go_at_call 130; exact Calls.grown_of (Q0.out _)) | (go_at_call 131; exact Calls.grown_of (Q1.out _))))
      refine wpQuiet_nil ?_
      rintro _ ⟨gq, rfl⟩
      have BQ := Lib.hid (BN.out.trans (gq.grown.mono BN.out.size))
      clear y0 y1 y2 y3 y4 y5
      go_wp2
      go_ret
      exact ⟨ret_boolh (by first | rfl | (rw [H.out]; rfl) | simp [hq]), BQ.out⟩
end Go.Proofs.YtkfkjcadmdcbnaaGreatDoor
namespace Go.Proofs.YtkfkjcadmdcbnaaGreatDoor
open Go.RowKit Go.Proofs.YtkfkjcadmdcbnaaGreatDoor.Hexa Go.Proofs.YtkfkjcadmdcbnaaGreatDoor.Byt Go.Proofs.YtkfkjcadmdcbnaaGreatDoor.BitsM

set_option maxRecDepth 100000 in
set_option maxHeartbeats 1000000 in
theorem implNum_yes (m k : Nat) (w : World) (hk : 1 ≤ k) (hk' : k ≤ 7) (hm : m < 256 ^ k) :
    Calls Tryz.prog 180 #[.int .i64 m, .int .i64 k] w fun e w' => e = .returned (.string (numB m k)) ∧ Below w.heap.size w w' := by
  obtain ⟨i0, hi, hz0, hz1, hz2⟩ := info_parts infoByte
  have hmb : m < 72057594037927936 := Nat.lt_of_lt_of_le hm (Nat.le_trans (Nat.pow_le_pow_right (by omega) hk') (by decide))
  have hq := shift_zero hm
  have h0 : ¬ ((m : Int) < 0) := by omega
  have hsh0 : (8 * (k : Int)).toNat = 8 * k := by omega
  clear hm
  go_enter Tryz.func180, Tryz.ntmps180
  go_wp2_with (at_make; refine wpList_make_full _ rfl _ _ 22 rfl w.heap.size 5 i0 (.int .u8 0) 1 Tryz.underlying22 hi hz0 hz1 .i64 .i64 _ _ k rfl rfl rfl rfl (by rw [hz2]; omega) (by unfold maxLen; omega) (Nat.le_refl _) ?_; intro w0 hown0 hgrow0)
  have hg0 : Below w.heap.size w w0 := (Below.refl _ _).grown hgrow0 (Nat.le_refl _) (fun k h => by cases h)
  have HO0 := Lib.hid (part_start hown0)
  clear hown0 hgrow0 hq hsh0
  go_loopw [6, 28] (fun jv iv wr => ∃ j : Nat, j ≤ k ∧ iv = .int .i64 j ∧ Hid (Bytes wr w.heap.size 5 (.slice (some ⟨w.heap.size, 0, none⟩) k k) (partB (numL m k j) k)) ∧ Below w.heap.size w wr)
    (fun _ iv _ => k - (intOf iv).toNat)
  case atStart => exact ⟨0, Nat.zero_le _, rfl, HO0, hg0⟩
  case round =>
    clear HO0 hg0
    obtain ⟨j, hj, rfl, HW, hbel⟩ := hrel
    have hl := numL_length m k j
    by_cases hlt : j < k
    · have hsh : (8 * ((k : Int) - 1 - j)).toNat = 8 * (k - 1 - j) := by omega
      have hge : 0 ≤ (k : Int) - 1 - j := by omega
      have hby := num_byte m (k - 1 - j)
      have HNX := Lib.hid (numL_next m k j)
      obtain ⟨⟨v, c3⟩, z3, hB⟩ := part_at HW.out (by omega)
      have N3 := Lib.hid (part_next HW.out (UInt8.ofNat (m / 256 ^ (k - 1 - j))) (by omega))
      rw [hl] at c3 z3 N3
      rw [HNX.out] at N3
      generalize UInt8.ofNat (m / 256 ^ (k - 1 - j)) = z at hby N3
      have hb1 : Below w.heap.size w (wr.setCell ⟨w.heap.size, j, none⟩ (.int .u8 (z.toNat : Int))) := hbel.setCell (Nat.le_refl _) _
      clear HNX
      go_wp2
      go_roundw
      case rel => exact ⟨j + 1, by omega, by go_num, N3, hb1⟩
      case measure => (simp [intOf]; try omega)
    · obtain rfl : j = k := by omega
      have h9 := HW.out
      rw [partB_full _ _ hl] at h9
      have hconv := bytes_string (P := Tryz.prog) 22 9 Tryz.underlying22 Tryz.underlying5 Tryz.underlying9 h9
      clear h9
      go_wp2
      go_ret
      exact ⟨rfl, hbel⟩
end Go.Proofs.YtkfkjcadmdcbnaaGreatDoor
namespace Go.Proofs.YtkfkjcadmdcbnaaGreatDoor
open Go.RowKit Go.Proofs.YtkfkjcadmdcbnaaGreatDoor.Hexa Go.Proofs.YtkfkjcadmdcbnaaGreatDoor.Byt Go.Proofs.YtkfkjcadmdcbnaaGreatDoor.BitsM

set_option maxRecDepth 100000 in
set_option maxHeartbeats 1000000 in
theorem implNum_no (n width : Int) (w : World) (h : ¬ NumFits n width) (hn : n ≤ 9223372036854775807) :
    Calls Tryz.prog 180 #[.int .i64 n, .int .i64 width] w fun e w' => e = .returned (.string ⟨#[]⟩) ∧ w' = w := by
  by_cases h0 : n < 0
  · go_enter Tryz.func180, Tryz.ntmps180
    go_wp2
    go_ret
    exact ⟨rfl, rfl⟩
  · by_cases hr1 : width < 1
    · go_enter Tryz.func180, Tryz.ntmps180
      go_wp2
      go_ret
      exact ⟨rfl, rfl⟩
    · by_cases hr2 : 7 < width
      · go_enter Tryz.func180, Tryz.ntmps180
        go_wp2
        go_ret
        exact ⟨rfl, rfl⟩
      · have hbig : ¬ n < 256 ^ width.toNat := fun hlt => h ⟨by omega, ⟨by omega, by omega⟩, hlt⟩
        obtain ⟨k, rfl⟩ : ∃ k : Nat, width = k := ⟨width.toNat, by omega⟩
        obtain ⟨m, rfl⟩ : ∃ m : Nat, n = m := ⟨n.toNat, by omega⟩
        have hm : 256 ^ k ≤ m := by
          have e : ((k : Int).toNat) = k := by omega
          rw [e] at hbig
          have e2 : (256 : Int) ^ k = ((256 ^ k : Nat) : Int) := by simp
          rw [e2] at hbig
          omega
        have hq0 := shift_pos hm
        have hq : ¬ ((m : Int) / 2 ^ (8 * k) = 0) := by omega
        have hsh0 : (8 * (k : Int)).toNat = 8 * k := by omega
        clear h hbig hm hq0
        go_enter Tryz.func180, Tryz.ntmps180
        go_wp2
        go_ret
        exact ⟨rfl, rfl⟩

theorem implNum_any (n width : Int) (w : World) (hn : n ≤ 9223372036854775807) :
    Calls Tryz.prog 180 #[.int .i64 n, .int .i64 width] w fun e w' => e = .returned (.string (numTextB n width)) ∧ Below w.heap.size w w' := by
  by_cases h : NumFits n width
  · have hE : numTextB n width = numB n.toNat width.toNat := by unfold numTextB; exact if_pos h
    obtain ⟨h0, ⟨h1, h7⟩, hf⟩ := h
    obtain ⟨m, rfl⟩ : ∃ m : Nat, n = m := ⟨n.toNat, by omega⟩
    obtain ⟨k, rfl⟩ : ∃ k : Nat, width = k := ⟨width.toNat, by omega⟩
    rw [hE]
    simp only [Int.toNat_natCast] at hf ⊢
    have e2 : (256 : Int) ^ k = ((256 ^ k : Nat) : Int) := by simp
    rw [e2] at hf
    exact implNum_yes m k w (by omega) (by omega) (by omega)
  · have hE : numTextB n width = ⟨#[]⟩ := by unfold numTextB; exact if_neg h
    rw [hE]
    exact (implNum_no n width w h hn).mono fun e w' ⟨he, hw⟩ => ⟨he, by rw [hw]; exact Below.refl _ _⟩
end Go.Proofs.YtkfkjcadmdcbnaaGreatDoor
namespace Go.Proofs.YtkfkjcadmdcbnaaGreatDoor
open Go.RowKit Go.Proofs.YtkfkjcadmdcbnaaGreatDoor.Parts Go.Proofs.YtkfkjcadmdcbnaaGreatDoor.Hexa Go.Proofs.YtkfkjcadmdcbnaaGreatDoor.Byt

set_option maxRecDepth 100000 in
set_option maxHeartbeats 1000000 in
theorem implSer_any (n : Int) (w : World) :
    Calls Tryz.prog 133 #[.int .i64 n] w fun e w' => e = .returned (.string (serB n)) ∧ Below w.heap.size w w' := by
  by_cases h : SerR n
  · have H := Lib.hid h
    rw [serB_yes h]
    obtain ⟨D, hD⟩ : ∃ D, numTextB n 3 = D := ⟨_, rfl⟩
    have HD := Lib.hid hD
    rw [hD]
    obtain ⟨Q, hQ⟩ : ∃ Q, wordB D = Q := ⟨_, rfl⟩
    have HQ := Lib.hid hQ
    rw [hQ]
    clear h hD hQ
    go_enter Tryz.func133, Tryz.ntmps133
    go_wp2_with fail
    refine (implIn_yes _ H.out).mono ?_
    rintro e w1 ⟨rfl, rfl⟩
    go_wp2_with fail
    refine (implNum_any n 3 _ (by have := H.out.2; omega)).mono ?_
    rw [HD.out]
    rintro e w2 ⟨rfl, hb⟩
    go_wp2_with fail
    refine (implWord_any D _).mono ?_
    rw [HQ.out]
    rintro e w3 ⟨rfl, hb3⟩
    go_wp2
    go_ret
    exact ⟨rfl, hb.trans (hb3.mono hb.size)⟩
  · have H := Lib.hid h
    rw [serB_no h]
    clear h
    go_enter Tryz.func133, Tryz.ntmps133
    go_wp2_with fail
    refine (implIn_no _ H.out).mono ?_
    rintro e w1 ⟨rfl, rfl⟩
    go_wp2
    go_ret
    exact ⟨rfl, Below.refl _ _⟩
end Go.Proofs.YtkfkjcadmdcbnaaGreatDoor
namespace Go.Proofs.YtkfkjcadmdcbnaaGreatDoor
open Go.RowKit Go.Proofs.YtkfkjcadmdcbnaaGreatDoor.Hexa Go.Proofs.YtkfkjcadmdcbnaaGreatDoor.Byt Go.Proofs.YtkfkjcadmdcbnaaGreatDoor.BitsM

theorem num_step (V : Nat) (b : UInt8) (hV : V < 281474976710656) : bits .or .i64 (RowKit.wrap64 ((V : Int) * 256)) (RowKit.wrap64 (b.toNat : Int)) = ((256 * V + b.toNat : Nat) : Int) := by
  have hb := b.toNat_lt
  have e1 : RowKit.wrap64 ((V : Int) * 256) = ((256 * V : Nat) : Int) := by unfold RowKit.wrap64; omega
  have e2 : RowKit.wrap64 (b.toNat : Int) = (b.toNat : Int) := by unfold RowKit.wrap64; omega
  rw [e1, e2, or64 _ _ (by omega) (by omega)]
  have h := Nat.two_pow_add_eq_or_of_lt (i := 8) (b := b.toNat) (by omega) V
  rw [show (2 : Nat) ^ 8 = 256 by decide] at h
  rw [h]
theorem read_next (s : ByteArray) (a j : Nat) (h : a + j < s.size) (hj : j ≤ 6) : bits .or .i64 (RowKit.wrap64 ((numV (cutL s a j) : Int) * 256)) (RowKit.wrap64 ((s[a + j]'h).toNat : Int)) = (numV (cutL s a (j + 1)) : Int) := by
  have h1 := numV_lt (cutL s a j)
  rw [cutL_length s a j (by omega)] at h1
  have h2 : numV (cutL s a j) < 281474976710656 := Nat.lt_of_lt_of_le h1 (Nat.le_trans (Nat.pow_le_pow_right (by omega) hj) (by decide))
  rw [num_step _ _ h2, ← cutL_next s a j h, numV_snoc]

set_option maxRecDepth 100000 in
set_option maxHeartbeats 1000000 in
theorem numberOf1_any (s : ByteArray) (a : Int) (w : World) (hs : s.size ≤ 100000000) :
    Calls Tryz.prog 172 #[.string s, .int .i64 a] w fun e w' => e = .returned (.tuple #[.int .i64 (numAtV s a 1), .bool (numAtB s a 1)]) ∧ Below w.heap.size w w' := by
  by_cases h : 0 ≤ a ∧ a ≤ (s.size : Int) - 1
  · have hV : numAtV s a 1 = numV (cutL s a.toNat 1) := by unfold numAtV; exact if_pos ⟨by decide, h⟩
    have hB : numAtB s a 1 = true := decide_eq_true ⟨by decide, h⟩
    rw [hV, hB]
    obtain ⟨k, rfl⟩ : ∃ k : Nat, a = k := ⟨a.toNat, by omega⟩
    have h1 : ¬ (((s.size : Int) - 1) < k) := by omega
    have h2 : k + 1 ≤ s.size := by omega
    rw [Int.toNat_natCast]
    clear h hV hB
    go_enter Tryz.func172, Tryz.ntmps172
    go_wp2
    go_loopw [7, 22] (fun nv iv wr => ∃ j : Nat, j ≤ 1 ∧ iv = .int .i64 j ∧ nv = .int .i64 (numV (cutL s k j)) ∧ Below w.heap.size w wr)
      (fun _ iv _ => 1 - (intOf iv).toNat)
    case atStart => exact ⟨0, Nat.zero_le _, rfl, rfl, (Below.refl _ _).alloc (Nat.le_refl _) _⟩
    case round =>
      obtain ⟨j, hj, rfl, rfl, hbel⟩ := hrel
      by_cases hlt : j < 1
      · have hlt2 : k + j < s.size := by omega
        have HN := Lib.hid (read_next s k j hlt2 (by omega))
        go_wp2
        rw [HN.out]
        go_roundw
        case rel => exact ⟨j + 1, by omega, by go_num, rfl, hbel⟩
        case measure => (simp [intOf]; try omega)
      · obtain rfl : j = 1 := by omega
        go_wp2
        go_ret2
        exact ⟨rfl, hbel⟩
  · have hV : numAtV s a 1 = 0 := by unfold numAtV; exact if_neg (fun h' => h h'.2)
    have hB : numAtB s a 1 = false := decide_eq_false (fun h' => h h'.2)
    rw [hV, hB]
    by_cases h0 : a < 0
    · go_enter Tryz.func172, Tryz.ntmps172
      go_wp2
      go_ret2
      exact ⟨rfl, (Below.refl _ _).alloc (Nat.le_refl _) _⟩
    · have h1 : ((s.size : Int) - 1) < a := by omega
      clear h hV hB
      go_enter Tryz.func172, Tryz.ntmps172
      go_wp2
      go_ret2
      exact ⟨rfl, (Below.refl _ _).alloc (Nat.le_refl _) _⟩

set_option maxRecDepth 100000 in
set_option maxHeartbeats 1000000 in
theorem numberOf2_any (s : ByteArray) (a : Int) (w : World) (hs : s.size ≤ 100000000) :
    Calls Tryz.prog 173 #[.string s, .int .i64 a] w fun e w' => e = .returned (.tuple #[.int .i64 (numAtV s a 2), .bool (numAtB s a 2)]) ∧ Below w.heap.size w w' := by
  by_cases h : 0 ≤ a ∧ a ≤ (s.size : Int) - 2
  · have hV : numAtV s a 2 = numV (cutL s a.toNat 2) := by unfold numAtV; exact if_pos ⟨by decide, h⟩
    have hB : numAtB s a 2 = true := decide_eq_true ⟨by decide, h⟩
    rw [hV, hB]
    obtain ⟨k, rfl⟩ : ∃ k : Nat, a = k := ⟨a.toNat, by omega⟩
    have h1 : ¬ (((s.size : Int) - 2) < k) := by omega
    have h2 : k + 2 ≤ s.size := by omega
    rw [Int.toNat_natCast]
    clear h hV hB
    go_enter Tryz.func173, Tryz.ntmps173
    go_wp2
    go_loopw [7, 22] (fun nv iv wr => ∃ j : Nat, j ≤ 2 ∧ iv = .int .i64 j ∧ nv = .int .i64 (numV (cutL s k j)) ∧ Below w.heap.size w wr)
      (fun _ iv _ => 2 - (intOf iv).toNat)
    case atStart => exact ⟨0, Nat.zero_le _, rfl, rfl, (Below.refl _ _).alloc (Nat.le_refl _) _⟩
    case round =>
      obtain ⟨j, hj, rfl, rfl, hbel⟩ := hrel
      by_cases hlt : j < 2
      · have hlt2 : k + j < s.size := by omega
        have HN := Lib.hid (read_next s k j hlt2 (by omega))
        go_wp2
        rw [HN.out]
        go_roundw
        case rel => exact ⟨j + 1, by omega, by go_num, rfl, hbel⟩
        case measure => (simp [intOf]; try omega)
      · obtain rfl : j = 2 := by omega
        go_wp2
        go_ret2
        exact ⟨rfl, hbel⟩
  · have hV : numAtV s a 2 = 0 := by unfold numAtV; exact if_neg (fun h' => h h'.2)
    have hB : numAtB s a 2 = false := decide_eq_false (fun h' => h h'.2)
    rw [hV, hB]
    by_cases h0 : a < 0
    · go_enter Tryz.func173, Tryz.ntmps173
      go_wp2
      go_ret2
      exact ⟨rfl, (Below.refl _ _).alloc (Nat.le_refl _) _⟩
    · have h1 : ((s.size : Int) - 2) < a := by omega
      clear h hV hB
      go_enter Tryz.func173, Tryz.ntmps173
      go_wp2
      go_ret2
      exact ⟨rfl, (Below.refl _ _).alloc (Nat.le_refl _) _⟩

set_option maxRecDepth 100000 in
set_option maxHeartbeats 1000000 in
theorem numberOf3_any (s : ByteArray) (a : Int) (w : World) (hs : s.size ≤ 100000000) :
    Calls Tryz.prog 174 #[.string s, .int .i64 a] w fun e w' => e = .returned (.tuple #[.int .i64 (numAtV s a 3), .bool (numAtB s a 3)]) ∧ Below w.heap.size w w' := by
  by_cases h : 0 ≤ a ∧ a ≤ (s.size : Int) - 3
  · have hV : numAtV s a 3 = numV (cutL s a.toNat 3) := by unfold numAtV; exact if_pos ⟨by decide, h⟩
    have hB : numAtB s a 3 = true := decide_eq_true ⟨by decide, h⟩
    rw [hV, hB]
    obtain ⟨k, rfl⟩ : ∃ k : Nat, a = k := ⟨a.toNat, by omega⟩
    have h1 : ¬ (((s.size : Int) - 3) < k) := by omega
    have h2 : k + 3 ≤ s.size := by omega
    rw [Int.toNat_natCast]
    clear h hV hB
    go_enter Tryz.func174, Tryz.ntmps174
    go_wp2
    go_loopw [7, 22] (fun nv iv wr => ∃ j : Nat, j ≤ 3 ∧ iv = .int .i64 j ∧ nv = .int .i64 (numV (cutL s k j)) ∧ Below w.heap.size w wr)
      (fun _ iv _ => 3 - (intOf iv).toNat)
    case atStart => exact ⟨0, Nat.zero_le _, rfl, rfl, (Below.refl _ _).alloc (Nat.le_refl _) _⟩
    case round =>
      obtain ⟨j, hj, rfl, rfl, hbel⟩ := hrel
      by_cases hlt : j < 3
      · have hlt2 : k + j < s.size := by omega
        have HN := Lib.hid (read_next s k j hlt2 (by omega))
        go_wp2
        rw [HN.out]
        go_roundw
        case rel => exact ⟨j + 1, by omega, by go_num, rfl, hbel⟩
        case measure => (simp [intOf]; try omega)
      · obtain rfl : j = 3 := by omega
        go_wp2
        go_ret2
        exact ⟨rfl, hbel⟩
  · have hV : numAtV s a 3 = 0 := by unfold numAtV; exact if_neg (fun h' => h h'.2)
    have hB : numAtB s a 3 = false := decide_eq_false (fun h' => h h'.2)
    rw [hV, hB]
    by_cases h0 : a < 0
    · go_enter Tryz.func174, Tryz.ntmps174
      go_wp2
      go_ret2
      exact ⟨rfl, (Below.refl _ _).alloc (Nat.le_refl _) _⟩
    · have h1 : ((s.size : Int) - 3) < a := by omega
      clear h hV hB
      go_enter Tryz.func174, Tryz.ntmps174
      go_wp2
      go_ret2
      exact ⟨rfl, (Below.refl _ _).alloc (Nat.le_refl _) _⟩

set_option maxRecDepth 100000 in
set_option maxHeartbeats 1000000 in
theorem numberOf4_any (s : ByteArray) (a : Int) (w : World) (hs : s.size ≤ 100000000) :
    Calls Tryz.prog 175 #[.string s, .int .i64 a] w fun e w' => e = .returned (.tuple #[.int .i64 (numAtV s a 4), .bool (numAtB s a 4)]) ∧ Below w.heap.size w w' := by
  by_cases h : 0 ≤ a ∧ a ≤ (s.size : Int) - 4
  · have hV : numAtV s a 4 = numV (cutL s a.toNat 4) := by unfold numAtV; exact if_pos ⟨by decide, h⟩
    have hB : numAtB s a 4 = true := decide_eq_true ⟨by decide, h⟩
    rw [hV, hB]
    obtain ⟨k, rfl⟩ : ∃ k : Nat, a = k := ⟨a.toNat, by omega⟩
    have h1 : ¬ (((s.size : Int) - 4) < k) := by omega
    have h2 : k + 4 ≤ s.size := by omega
    rw [Int.toNat_natCast]
    clear h hV hB
    go_enter Tryz.func175, Tryz.ntmps175
    go_wp2
    go_loopw [7, 22] (fun nv iv wr => ∃ j : Nat, j ≤ 4 ∧ iv = .int .i64 j ∧ nv = .int .i64 (numV (cutL s k j)) ∧ Below w.heap.size w wr)
      (fun _ iv _ => 4 - (intOf iv).toNat)
    case atStart => exact ⟨0, Nat.zero_le _, rfl, rfl, (Below.refl _ _).alloc (Nat.le_refl _) _⟩
    case round =>
      obtain ⟨j, hj, rfl, rfl, hbel⟩ := hrel
      by_cases hlt : j < 4
      · have hlt2 : k + j < s.size := by omega
        have HN := Lib.hid (read_next s k j hlt2 (by omega))
        go_wp2
        rw [HN.out]
        go_roundw
        case rel => exact ⟨j + 1, by omega, by go_num, rfl, hbel⟩
        case measure => (simp [intOf]; try omega)
      · obtain rfl : j = 4 := by omega
        go_wp2
        go_ret2
        exact ⟨rfl, hbel⟩
  · have hV : numAtV s a 4 = 0 := by unfold numAtV; exact if_neg (fun h' => h h'.2)
    have hB : numAtB s a 4 = false := decide_eq_false (fun h' => h h'.2)
    rw [hV, hB]
    by_cases h0 : a < 0
    · go_enter Tryz.func175, Tryz.ntmps175
      go_wp2
      go_ret2
      exact ⟨rfl, (Below.refl _ _).alloc (Nat.le_refl _) _⟩
    · have h1 : ((s.size : Int) - 4) < a := by omega
      clear h hV hB
      go_enter Tryz.func175, Tryz.ntmps175
      go_wp2
      go_ret2
      exact ⟨rfl, (Below.refl _ _).alloc (Nat.le_refl _) _⟩

set_option maxRecDepth 100000 in
set_option maxHeartbeats 1000000 in
theorem numberOf5_any (s : ByteArray) (a : Int) (w : World) (hs : s.size ≤ 100000000) :
    Calls Tryz.prog 176 #[.string s, .int .i64 a] w fun e w' => e = .returned (.tuple #[.int .i64 (numAtV s a 5), .bool (numAtB s a 5)]) ∧ Below w.heap.size w w' := by
  by_cases h : 0 ≤ a ∧ a ≤ (s.size : Int) - 5
  · have hV : numAtV s a 5 = numV (cutL s a.toNat 5) := by unfold numAtV; exact if_pos ⟨by decide, h⟩
    have hB : numAtB s a 5 = true := decide_eq_true ⟨by decide, h⟩
    rw [hV, hB]
    obtain ⟨k, rfl⟩ : ∃ k : Nat, a = k := ⟨a.toNat, by omega⟩
    have h1 : ¬ (((s.size : Int) - 5) < k) := by omega
    have h2 : k + 5 ≤ s.size := by omega
    rw [Int.toNat_natCast]
    clear h hV hB
    go_enter Tryz.func176, Tryz.ntmps176
    go_wp2
    go_loopw [7, 22] (fun nv iv wr => ∃ j : Nat, j ≤ 5 ∧ iv = .int .i64 j ∧ nv = .int .i64 (numV (cutL s k j)) ∧ Below w.heap.size w wr)
      (fun _ iv _ => 5 - (intOf iv).toNat)
    case atStart => exact ⟨0, Nat.zero_le _, rfl, rfl, (Below.refl _ _).alloc (Nat.le_refl _) _⟩
    case round =>
      obtain ⟨j, hj, rfl, rfl, hbel⟩ := hrel
      by_cases hlt : j < 5
      · have hlt2 : k + j < s.size := by omega
        have HN := Lib.hid (read_next s k j hlt2 (by omega))
        go_wp2
        rw [HN.out]
        go_roundw
        case rel => exact ⟨j + 1, by omega, by go_num, rfl, hbel⟩
        case measure => (simp [intOf]; try omega)
      · obtain rfl : j = 5 := by omega
        go_wp2
        go_ret2
        exact ⟨rfl, hbel⟩
  · have hV : numAtV s a 5 = 0 := by unfold numAtV; exact if_neg (fun h' => h h'.2)
    have hB : numAtB s a 5 = false := decide_eq_false (fun h' => h h'.2)
    rw [hV, hB]
    by_cases h0 : a < 0
    · go_enter Tryz.func176, Tryz.ntmps176
      go_wp2
      go_ret2
      exact ⟨rfl, (Below.refl _ _).alloc (Nat.le_refl _) _⟩
    · have h1 : ((s.size : Int) - 5) < a := by omega
      clear h hV hB
      go_enter Tryz.func176, Tryz.ntmps176
      go_wp2
      go_ret2
      exact ⟨rfl, (Below.refl _ _).alloc (Nat.le_refl _) _⟩

set_option maxRecDepth 100000 in
set_option maxHeartbeats 1000000 in
theorem numberOf6_any (s : ByteArray) (a : Int) (w : World) (hs : s.size ≤ 100000000) :
    Calls Tryz.prog 177 #[.string s, .int .i64 a] w fun e w' => e = .returned (.tuple #[.int .i64 (numAtV s a 6), .bool (numAtB s a 6)]) ∧ Below w.heap.size w w' := by
  by_cases h : 0 ≤ a ∧ a ≤ (s.size : Int) - 6
  · have hV : numAtV s a 6 = numV (cutL s a.toNat 6) := by unfold numAtV; exact if_pos ⟨by decide, h⟩
    have hB : numAtB s a 6 = true := decide_eq_true ⟨by decide, h⟩
    rw [hV, hB]
    obtain ⟨k, rfl⟩ : ∃ k : Nat, a = k := ⟨a.toNat, by omega⟩
    have h1 : ¬ (((s.size : Int) - 6) < k) := by omega
    have h2 : k + 6 ≤ s.size := by omega
    rw [Int.toNat_natCast]
    clear h hV hB
    go_enter Tryz.func177, Tryz.ntmps177
    go_wp2
    go_loopw [7, 22] (fun nv iv wr => ∃ j : Nat, j ≤ 6 ∧ iv = .int .i64 j ∧ nv = .int .i64 (numV (cutL s k j)) ∧ Below w.heap.size w wr)
      (fun _ iv _ => 6 - (intOf iv).toNat)
    case atStart => exact ⟨0, Nat.zero_le _, rfl, rfl, (Below.refl _ _).alloc (Nat.le_refl _) _⟩
    case round =>
      obtain ⟨j, hj, rfl, rfl, hbel⟩ := hrel
      by_cases hlt : j < 6
      · have hlt2 : k + j < s.size := by omega
        have HN := Lib.hid (read_next s k j hlt2 (by omega))
        go_wp2
        rw [HN.out]
        go_roundw
        case rel => exact ⟨j + 1, by omega, by go_num, rfl, hbel⟩
        case measure => (simp [intOf]; try omega)
      · obtain rfl : j = 6 := by omega
        go_wp2
        go_ret2
        exact ⟨rfl, hbel⟩
  · have hV : numAtV s a 6 = 0 := by unfold numAtV; exact if_neg (fun h' => h h'.2)
    have hB : numAtB s a 6 = false := decide_eq_false (fun h' => h h'.2)
    rw [hV, hB]
    by_cases h0 : a < 0
    · go_enter Tryz.func177, Tryz.ntmps177
      go_wp2
      go_ret2
      exact ⟨rfl, (Below.refl _ _).alloc (Nat.le_refl _) _⟩
    · have h1 : ((s.size : Int) - 6) < a := by omega
      clear h hV hB
      go_enter Tryz.func177, Tryz.ntmps177
      go_wp2
      go_ret2
      exact ⟨rfl, (Below.refl _ _).alloc (Nat.le_refl _) _⟩

set_option maxRecDepth 100000 in
set_option maxHeartbeats 1000000 in
theorem numberOf7_any (s : ByteArray) (a : Int) (w : World) (hs : s.size ≤ 100000000) :
    Calls Tryz.prog 178 #[.string s, .int .i64 a] w fun e w' => e = .returned (.tuple #[.int .i64 (numAtV s a 7), .bool (numAtB s a 7)]) ∧ Below w.heap.size w w' := by
  by_cases h : 0 ≤ a ∧ a ≤ (s.size : Int) - 7
  · have hV : numAtV s a 7 = numV (cutL s a.toNat 7) := by unfold numAtV; exact if_pos ⟨by decide, h⟩
    have hB : numAtB s a 7 = true := decide_eq_true ⟨by decide, h⟩
    rw [hV, hB]
    obtain ⟨k, rfl⟩ : ∃ k : Nat, a = k := ⟨a.toNat, by omega⟩
    have h1 : ¬ (((s.size : Int) - 7) < k) := by omega
    have h2 : k + 7 ≤ s.size := by omega
    rw [Int.toNat_natCast]
    clear h hV hB
    go_enter Tryz.func178, Tryz.ntmps178
    go_wp2
    go_loopw [7, 22] (fun nv iv wr => ∃ j : Nat, j ≤ 7 ∧ iv = .int .i64 j ∧ nv = .int .i64 (numV (cutL s k j)) ∧ Below w.heap.size w wr)
      (fun _ iv _ => 7 - (intOf iv).toNat)
    case atStart => exact ⟨0, Nat.zero_le _, rfl, rfl, (Below.refl _ _).alloc (Nat.le_refl _) _⟩
    case round =>
      obtain ⟨j, hj, rfl, rfl, hbel⟩ := hrel
      by_cases hlt : j < 7
      · have hlt2 : k + j < s.size := by omega
        have HN := Lib.hid (read_next s k j hlt2 (by omega))
        go_wp2
        rw [HN.out]
        go_roundw
        case rel => exact ⟨j + 1, by omega, by go_num, rfl, hbel⟩
        case measure => (simp [intOf]; try omega)
      · obtain rfl : j = 7 := by omega
        go_wp2
        go_ret2
        exact ⟨rfl, hbel⟩
  · have hV : numAtV s a 7 = 0 := by unfold numAtV; exact if_neg (fun h' => h h'.2)
    have hB : numAtB s a 7 = false := decide_eq_false (fun h' => h h'.2)
    rw [hV, hB]
    by_cases h0 : a < 0
    · go_enter Tryz.func178, Tryz.ntmps178
      go_wp2
      go_ret2
      exact ⟨rfl, (Below.refl _ _).alloc (Nat.le_refl _) _⟩
    · have h1 : ((s.size : Int) - 7) < a := by omega
      clear h hV hB
      go_enter Tryz.func178, Tryz.ntmps178
      go_wp2
      go_ret2
      exact ⟨rfl, (Below.refl _ _).alloc (Nat.le_refl _) _⟩

theorem numAt_out (s : ByteArray) (a k : Int) (h : ¬ (1 ≤ k ∧ k ≤ 7)) : numAtV s a k = 0 ∧ numAtB s a k = false := by
  refine ⟨?_, decide_eq_false fun h' => h h'.1⟩
  unfold numAtV
  exact if_neg fun h' => h h'.1

set_option maxRecDepth 100000 in
set_option maxHeartbeats 1000000 in
theorem implNumAt_any (s : ByteArray) (a k : Int) (w : World) (hs : s.size ≤ 100000000) :
    Calls Tryz.prog 132 #[.string s, .int .i64 a, .int .i64 k] w fun e w' => e = .returned (.tuple #[.int .i64 (numAtV s a k), .bool (numAtB s a k)]) ∧ Below w.heap.size w w' := by
  by_cases h : 1 ≤ k ∧ k ≤ 7
  · have hk : k = 1 ∨ k = 2 ∨ k = 3 ∨ k = 4 ∨ k = 5 ∨ k = 6 ∨ k = 7 := by omega
    clear h
    rcases hk with rfl | rfl | rfl | rfl | rfl | rfl | rfl
    · have R := Lib.hid (numberOf1_any s a w hs)
      generalize numAtV s a 1 = rv at R ⊢
      generalize numAtB s a 1 = rb at R ⊢
      go_enter Tryz.func132, Tryz.ntmps132
      go_wp2_with (go_at_call 172; refine R.out.mono ?_; rintro e w1 ⟨rfl, hb1⟩)
      go_ret2
      exact ⟨rfl, hb1⟩
    · have R := Lib.hid (numberOf2_any s a w hs)
      generalize numAtV s a 2 = rv at R ⊢
      generalize numAtB s a 2 = rb at R ⊢
      go_enter Tryz.func132, Tryz.ntmps132
      go_wp2_with (go_at_call 173; refine R.out.mono ?_; rintro e w1 ⟨rfl, hb1⟩)
      go_ret2
      exact ⟨rfl, hb1⟩
    · have R := Lib.hid (numberOf3_any s a w hs)
      generalize numAtV s a 3 = rv at R ⊢
      generalize numAtB s a 3 = rb at R ⊢
      go_enter Tryz.func132, Tryz.ntmps132
      go_wp2_with (go_at_call 174; refine R.out.mono ?_; rintro e w1 ⟨rfl, hb1⟩)
      go_ret2
      exact ⟨rfl, hb1⟩
    · have R := Lib.hid (numberOf4_any s a w hs)
      generalize numAtV s a 4 = rv at R ⊢
      generalize numAtB s a 4 = rb at R ⊢
      go_enter Tryz.func132, Tryz.ntmps132
      go_wp2_with (go_at_call 175; refine R.out.mono ?_; rintro e w1 ⟨rfl, hb1⟩)
      go_ret2
      exact ⟨rfl, hb1⟩
    · have R := Lib.hid (numberOf5_any s a w hs)
      generalize numAtV s a 5 = rv at R ⊢
      generalize numAtB s a 5 = rb at R ⊢
      go_enter Tryz.func132, Tryz.ntmps132
      go_wp2_with (go_at_call 176; refine R.out.mono ?_; rintro e w1 ⟨rfl, hb1⟩)
      go_ret2
      exact ⟨rfl, hb1⟩
    · have R := Lib.hid (numberOf6_any s a w hs)
      generalize numAtV s a 6 = rv at R ⊢
      generalize numAtB s a 6 = rb at R ⊢
      go_enter Tryz.func132, Tryz.ntmps132
      go_wp2_with (go_at_call 177; refine R.out.mono ?_; rintro e w1 ⟨rfl, hb1⟩)
      go_ret2
      exact ⟨rfl, hb1⟩
    · have R := Lib.hid (numberOf7_any s a w hs)
      generalize numAtV s a 7 = rv at R ⊢
      generalize numAtB s a 7 = rb at R ⊢
      go_enter Tryz.func132, Tryz.ntmps132
      go_wp2_with (go_at_call 178; refine R.out.mono ?_; rintro e w1 ⟨rfl, hb1⟩)
      go_ret2
      exact ⟨rfl, hb1⟩
  · obtain ⟨hV, hB⟩ := numAt_out s a k h
    rw [hV, hB]
    have n1 : ¬ k = 1 := by omega
    have n2 : ¬ k = 2 := by omega
    have n3 : ¬ k = 3 := by omega
    have n4 : ¬ k = 4 := by omega
    have n5 : ¬ k = 5 := by omega
    have n6 : ¬ k = 6 := by omega
    have n7 : ¬ k = 7 := by omega
    clear h hV hB
    go_enter Tryz.func132, Tryz.ntmps132
    go_wp2
    go_ret2
    exact ⟨rfl, Below.refl _ _⟩
end Go.Proofs.YtkfkjcadmdcbnaaGreatDoor
namespace Go.Proofs.YtkfkjcadmdcbnaaGreatDoor
open Go.RowKit Go.Proofs.YtkfkjcadmdcbnaaGreatDoor.Parts Go.Proofs.YtkfkjcadmdcbnaaGreatDoor.Hexa Go.Proofs.YtkfkjcadmdcbnaaGreatDoor.Byt

set_option maxRecDepth 100000 in
set_option maxHeartbeats 2000000 in
theorem implReadSer_any (s : ByteArray) (w : World) (hs : s.size ≤ 100000000) :
    Calls Tryz.prog 76 #[.string s] w fun e w' => e = .returned (.tuple #[.int .i64 (numAtV s 0 3), .bool (decide (serB (numAtV s 0 3) = s))]) ∧ Below w.heap.size w w' := by
  obtain ⟨n, hn⟩ : ∃ n, numAtV s 0 3 = n := ⟨_, rfl⟩
  obtain ⟨b, hb⟩ : ∃ b, numAtB s 0 3 = b := ⟨_, rfl⟩
  obtain ⟨x, hx⟩ : ∃ x, serB n = x := ⟨_, rfl⟩
  rw [hn, hx]
  have HN := Lib.hid hn
  have HB := Lib.hid hb
  have HX := Lib.hid hx
  clear hn hb hx
  go_enter Tryz.func76, Tryz.ntmps76
  go_wp2_with fail
  refine (implNumAt_any s 0 3 _ hs).mono ?_
  rw [HN.out, HB.out]
  rintro e w1 ⟨rfl, hb1⟩
  have B1 := Lib.hid hb1
  clear hb1
  go_wp2_with fail
  refine (implSer_any n _).mono ?_
  rw [HX.out]
  rintro e w2 ⟨rfl, hb2⟩
  have B2 := Lib.hid (B1.out.trans (hb2.mono B1.out.size))
  clear hb2
  by_cases h : x = s
  · have H := Lib.hid (decide_eq_true h)
    have hq := (Lib.bytes_beq_iff x s).2 h
    go_wp2
    refine bodyPost_ret (v := .tuple #[.int .i64 n, .bool (decide (x = s))]) ?_ rfl ⟨rfl, B2.out⟩
    rw [H.out]
    simp [results, Tryz.results76, go_sem]
  · have H := Lib.hid (decide_eq_false h)
    have hq := (Lib.bytes_beq_false_iff x s).2 h
    go_wp2
    refine bodyPost_ret (v := .tuple #[.int .i64 n, .bool (decide (x = s))]) ?_ rfl ⟨rfl, B2.out⟩
    rw [H.out]
    simp [results, Tryz.results76, go_sem]
end Go.Proofs.YtkfkjcadmdcbnaaGreatDoor
namespace Go.Proofs.YtkfkjcadmdcbnaaGreatDoor
open Go.RowKit

set_option maxRecDepth 100000 in
set_option maxHeartbeats 400000 in
theorem implIdx_any (n b : Int) (w : World) : Calls Tryz.prog 129 #[.int .i64 n, .int .i64 b] w fun e w' => e = .returned (.bool (decide (0 ≤ n ∧ n < b))) ∧ w' = w := by
  by_cases h1 : 0 ≤ n <;> by_cases h2 : n < b
  all_goals
    go_enter Tryz.func129, Tryz.ntmps129
    go_wp2
    all_goals go_ret
    all_goals exact ⟨by simp [h1, h2], rfl⟩
theorem implIdx_yes {n b : Int} (w : World) (h : 0 ≤ n ∧ n < b) : Calls Tryz.prog 129 #[.int .i64 n, .int .i64 b] w fun e w' => e = .returned (.bool true) ∧ w' = w :=
  (implIdx_any n b w).mono fun _ _ ⟨he, hw⟩ => ⟨by rw [he, decide_eq_true h], hw⟩
theorem implIdx_no {n b : Int} (w : World) (h : ¬ (0 ≤ n ∧ n < b)) : Calls Tryz.prog 129 #[.int .i64 n, .int .i64 b] w fun e w' => e = .returned (.bool false) ∧ w' = w :=
  (implIdx_any n b w).mono fun _ _ ⟨he, hw⟩ => ⟨by rw [he, decide_eq_false h], hw⟩
end Go.Proofs.YtkfkjcadmdcbnaaGreatDoor
namespace Go.Proofs.YtkfkjcadmdcbnaaGreatDoor
open Go.RowKit

set_option maxRecDepth 100000 in
set_option maxHeartbeats 1000000 in
theorem implTen_yes (T P I Q : Int) (t : Int) (h : GeoR T P I Q) (ht : 0 ≤ t ∧ t ≤ T - 1) (w : World) : Calls Tryz.prog 74 #[.agg #[.int .i64 T, .int .i64 P, .int .i64 I, .int .i64 Q], .int .i64 t] w (SaysB true w) := by
  have T0 := Lib.hid (Four.alloc w T P I Q 25)
  have B0 := Lib.hid (below_al w (.cells #[.int .i64 T, .int .i64 P, .int .i64 I, .int .i64 Q] 25))
  have HG := Lib.hid h
  have HT := Lib.hid ht
  obtain ⟨g1, g2, g3, g4, g5, g6, g7, g8⟩ := h
  clear ht
  go_enter Tryz.func74, Tryz.ntmps74
  go_wp2_with fail
  refine (implGeo_yes T P I Q _ HG.out).mono ?_
  rintro e w1 ⟨rfl, hb⟩
  have T1 := Lib.hid (T0.out.later hb)
  have B1 : Hid (Below w.heap.size w w1) := Lib.hid (B0.out.trans (hb.mono B0.out.size))
  clear hb
  have c0 := T1.out.c0
  have c1 := T1.out.c1
  have c2 := T1.out.c2
  have c3 := T1.out.c3
  go_wp2_with fail
  refine (implIdx_yes _ ⟨HT.out.1, by have := HT.out.2; omega⟩).mono ?_
  rintro e w9 ⟨rfl, rfl⟩
  go_wp2
  go_ret
  exact ⟨rfl, B1.out⟩
set_option maxRecDepth 100000 in
set_option maxHeartbeats 1000000 in
theorem implTen_nogeo (T P I Q : Int) (t : Int) (h : ¬ GeoR T P I Q) (w : World) : Calls Tryz.prog 74 #[.agg #[.int .i64 T, .int .i64 P, .int .i64 I, .int .i64 Q], .int .i64 t] w (SaysB false w) := by
  have T0 := Lib.hid (Four.alloc w T P I Q 25)
  have B0 := Lib.hid (below_al w (.cells #[.int .i64 T, .int .i64 P, .int .i64 I, .int .i64 Q] 25))
  have HG := Lib.hid h
  clear h
  go_enter Tryz.func74, Tryz.ntmps74
  go_wp2_with fail
  refine (implGeo_no T P I Q _ HG.out).mono ?_
  rintro e w1 ⟨rfl, hb⟩
  have T1 := Lib.hid (T0.out.later hb)
  have B1 : Hid (Below w.heap.size w w1) := Lib.hid (B0.out.trans (hb.mono B0.out.size))
  clear hb
  have c0 := T1.out.c0
  have c1 := T1.out.c1
  have c2 := T1.out.c2
  have c3 := T1.out.c3
  go_wp2
  go_ret
  exact ⟨rfl, B1.out⟩
set_option maxRecDepth 100000 in
set_option maxHeartbeats 1000000 in
theorem implTen_noten (T P I Q : Int) (t : Int) (h : GeoR T P I Q) (ht : ¬ (0 ≤ t ∧ t ≤ T - 1)) (w : World) : Calls Tryz.prog 74 #[.agg #[.int .i64 T, .int .i64 P, .int .i64 I, .int .i64 Q], .int .i64 t] w (SaysB false w) := by
  have T0 := Lib.hid (Four.alloc w T P I Q 25)
  have B0 := Lib.hid (below_al w (.cells #[.int .i64 T, .int .i64 P, .int .i64 I, .int .i64 Q] 25))
  have HG := Lib.hid h
  obtain ⟨g1, g2, g3, g4, g5, g6, g7, g8⟩ := h
  have HT := Lib.hid ht
  clear ht
  go_enter Tryz.func74, Tryz.ntmps74
  go_wp2_with fail
  refine (implGeo_yes T P I Q _ HG.out).mono ?_
  rintro e w1 ⟨rfl, hb⟩
  have T1 := Lib.hid (T0.out.later hb)
  have B1 : Hid (Below w.heap.size w w1) := Lib.hid (B0.out.trans (hb.mono B0.out.size))
  clear hb
  have c0 := T1.out.c0
  have c1 := T1.out.c1
  have c2 := T1.out.c2
  have c3 := T1.out.c3
  go_wp2_with fail
  refine (implIdx_no _ (fun e => HT.out ⟨e.1, by omega⟩)).mono ?_
  rintro e w9 ⟨rfl, rfl⟩
  go_wp2
  go_ret
  exact ⟨rfl, B1.out⟩
theorem implTen_no (T P I Q t : Int) (h : ¬ (GeoR T P I Q ∧ 0 ≤ t ∧ t ≤ T - 1)) (w : World) : Calls Tryz.prog 74 #[.agg #[.int .i64 T, .int .i64 P, .int .i64 I, .int .i64 Q], .int .i64 t] w (SaysB false w) := by
  by_cases hg : GeoR T P I Q
  · exact implTen_noten T P I Q t hg (fun e => h ⟨hg, e⟩) w
  · exact implTen_nogeo T P I Q t hg w
set_option maxRecDepth 100000 in
set_option maxHeartbeats 1000000 in
theorem implAt_yes (T P I Q : Int) (t a : Int) (h : GeoR T P I Q) (ht : 0 ≤ t ∧ t ≤ T - 1) (ha : 0 ≤ a ∧ a ≤ 1000) (w : World) : Calls Tryz.prog 137 #[.agg #[.int .i64 T, .int .i64 P, .int .i64 I, .int .i64 Q], .int .i64 t, .int .i64 a] w (SaysI (t * wordsOf P I + a) w) := by
  have T0 := Lib.hid (Four.alloc w T P I Q 25)
  have B0 := Lib.hid (below_al w (.cells #[.int .i64 T, .int .i64 P, .int .i64 I, .int .i64 Q] 25))
  obtain ⟨W, hW⟩ : ∃ W, wordsOf P I = W := ⟨_, rfl⟩
  have HG := Lib.hid h
  obtain ⟨g1, g2, g3, g4, g5, g6, g7, g8⟩ := h
  have hw0 : 0 ≤ W ∧ W ≤ 134 := by unfold wordsOf at hW; omega
  have hm := Plc.mul_bd ht.1 (by omega) hw0.1 hw0.2
  obtain ⟨m1, m2⟩ := hm
  obtain ⟨W1, W2⟩ := hw0
  have HW := Lib.hid hW
  have HT := Lib.hid ht
  obtain ⟨t1, t2⟩ := ht
  obtain ⟨a1, a2⟩ := ha
  rw [hW]
  clear hW
  go_enter Tryz.func137, Tryz.ntmps137
  go_wp2_with fail
  refine (implTen_yes T P I Q t HG.out HT.out _).mono ?_
  rintro e w1 ⟨rfl, hb⟩
  have T1 := Lib.hid (T0.out.later hb)
  have B1 : Hid (Below w.heap.size w w1) := Lib.hid (B0.out.trans (hb.mono B0.out.size))
  clear hb
  have c0 := T1.out.c0
  have c1 := T1.out.c1
  have c2 := T1.out.c2
  have c3 := T1.out.c3
  go_wp2_with fail
  refine (implPW_yes T P I Q HG.out _).mono ?_
  rintro e w2 ⟨rfl, hb⟩
  clear c0 c1 c2 c3
  have T2 := Lib.hid (T1.out.later hb)
  have B2 : Hid (Below w.heap.size w w2) := Lib.hid (B1.out.trans (hb.mono B1.out.size))
  clear hb
  have c0 := T2.out.c0
  have c1 := T2.out.c1
  have c2 := T2.out.c2
  have c3 := T2.out.c3
  rw [HW.out]
  go_wp2
  go_ret
  exact ⟨rfl, B2.out⟩
set_option maxRecDepth 100000 in
set_option maxHeartbeats 1000000 in
theorem implAt_no (T P I Q t a : Int) (h : ¬ (GeoR T P I Q ∧ 0 ≤ t ∧ t ≤ T - 1)) (w : World) : Calls Tryz.prog 137 #[.agg #[.int .i64 T, .int .i64 P, .int .i64 I, .int .i64 Q], .int .i64 t, .int .i64 a] w (SaysI (-1) w) := by
  have T0 := Lib.hid (Four.alloc w T P I Q 25)
  have B0 := Lib.hid (below_al w (.cells #[.int .i64 T, .int .i64 P, .int .i64 I, .int .i64 Q] 25))
  have HG := Lib.hid h
  clear h
  go_enter Tryz.func137, Tryz.ntmps137
  go_wp2_with fail
  refine (implTen_no T P I Q t HG.out _).mono ?_
  rintro e w1 ⟨rfl, hb⟩
  have T1 := Lib.hid (T0.out.later hb)
  have B1 : Hid (Below w.heap.size w w1) := Lib.hid (B0.out.trans (hb.mono B0.out.size))
  clear hb
  have c0 := T1.out.c0
  have c1 := T1.out.c1
  have c2 := T1.out.c2
  have c3 := T1.out.c3
  go_wp2
  go_ret
  exact ⟨rfl, B1.out⟩
theorem implAt_nogeo (T P I Q : Int) (t a : Int) (h : ¬ GeoR T P I Q) (w : World) : Calls Tryz.prog 137 #[.agg #[.int .i64 T, .int .i64 P, .int .i64 I, .int .i64 Q], .int .i64 t, .int .i64 a] w (SaysI (-1) w) := implAt_no T P I Q t a (fun e => h e.1) w
end Go.Proofs.YtkfkjcadmdcbnaaGreatDoor
namespace Go.Proofs.YtkfkjcadmdcbnaaGreatDoor
open Go.RowKit

theorem implAt_any (T P I Q t a : Int) (ha : GeoR T P I Q → 0 ≤ a ∧ a ≤ 1000) (w : World) : Calls Tryz.prog 137 #[.agg #[.int .i64 T, .int .i64 P, .int .i64 I, .int .i64 Q], .int .i64 t, .int .i64 a] w (SaysI (placeV T P I Q t a) w) := by
  by_cases h : GeoR T P I Q ∧ 0 ≤ t ∧ t ≤ T - 1
  · rw [placeV_yes h]; exact implAt_yes T P I Q t a h.1 h.2 (ha h.1) w
  · rw [placeV_no h]; exact implAt_no T P I Q t a h w

set_option maxRecDepth 100000 in
set_option maxHeartbeats 1000000 in
theorem implInode_yes (T P I Q : Int) (t i : Int) (h : GeoR T P I Q) (hi : 0 ≤ i ∧ i ≤ I - 1) (w : World) : Calls Tryz.prog 83 #[.agg #[.int .i64 T, .int .i64 P, .int .i64 I, .int .i64 Q], .int .i64 t, .int .i64 i] w (SaysI (inodV T P I Q t i) w) := by
  have T0 := Lib.hid (Four.alloc w T P I Q 25)
  have B0 := Lib.hid (below_al w (.cells #[.int .i64 T, .int .i64 P, .int .i64 I, .int .i64 Q] 25))
  have HJ : Hid (inodV T P I Q t i = placeV T P I Q t (38 + 8 * i)) := Lib.hid (if_pos ⟨h, hi⟩)
  have HR := Lib.hid hi
  obtain ⟨i0, i1⟩ := hi
  have HG := Lib.hid h
  obtain ⟨g1, g2, g3, g4, g5, g6, g7, g8⟩ := h
  go_enter Tryz.func83, Tryz.ntmps83
  have c0 := T0.out.c0
  have c1 := T0.out.c1
  have c2 := T0.out.c2
  have c3 := T0.out.c3
  go_wp2_with fail
  refine (implIdx_yes _ ⟨HR.out.1, by have := HR.out.2; omega⟩).mono ?_
  rintro e w9 ⟨rfl, rfl⟩
  go_wp2_with fail
  refine (implAt_any T P I Q t (38 + 8 * i) (fun _ => by omega) _).mono ?_
  rintro e w8 ⟨rfl, hb⟩
  have B8 : Hid (Below w.heap.size w w8) := Lib.hid (B0.out.trans (hb.mono B0.out.size))
  clear hb
  obtain ⟨v, hv⟩ : ∃ v, placeV T P I Q t (38 + 8 * i) = v := ⟨_, rfl⟩
  rw [hv]
  have HV := Lib.hid hv
  clear hv
  go_wp2
  go_ret
  exact ⟨by rw [HJ.out, HV.out]; rfl, B8.out⟩
set_option maxRecDepth 100000 in
set_option maxHeartbeats 1000000 in
theorem implInode_noi (T P I Q : Int) (t i : Int) (h : GeoR T P I Q) (hi : ¬ (0 ≤ i ∧ i ≤ I - 1)) (w : World) : Calls Tryz.prog 83 #[.agg #[.int .i64 T, .int .i64 P, .int .i64 I, .int .i64 Q], .int .i64 t, .int .i64 i] w (SaysI (inodV T P I Q t i) w) := by
  have T0 := Lib.hid (Four.alloc w T P I Q 25)
  have B0 := Lib.hid (below_al w (.cells #[.int .i64 T, .int .i64 P, .int .i64 I, .int .i64 Q] 25))
  have HJ : Hid (inodV T P I Q t i = -1) := Lib.hid (if_neg (fun e => hi e.2))
  have HR := Lib.hid hi
  clear hi
  have HG := Lib.hid h
  obtain ⟨g1, g2, g3, g4, g5, g6, g7, g8⟩ := h
  go_enter Tryz.func83, Tryz.ntmps83
  have c0 := T0.out.c0
  have c1 := T0.out.c1
  have c2 := T0.out.c2
  have c3 := T0.out.c3
  go_wp2_with fail
  refine (implIdx_no _ (fun e => HR.out ⟨e.1, by omega⟩)).mono ?_
  rintro e w9 ⟨rfl, rfl⟩
  go_wp2
  go_ret
  exact ⟨by rw [HJ.out]; rfl, B0.out⟩
set_option maxRecDepth 100000 in
set_option maxHeartbeats 1000000 in
theorem implInode_nogy (T P I Q : Int) (t i : Int) (h : ¬ GeoR T P I Q) (hi : (0 ≤ i ∧ i < I)) (w : World) : Calls Tryz.prog 83 #[.agg #[.int .i64 T, .int .i64 P, .int .i64 I, .int .i64 Q], .int .i64 t, .int .i64 i] w (SaysI (inodV T P I Q t i) w) := by
  have T0 := Lib.hid (Four.alloc w T P I Q 25)
  have B0 := Lib.hid (below_al w (.cells #[.int .i64 T, .int .i64 P, .int .i64 I, .int .i64 Q] 25))
  have HJ : Hid (inodV T P I Q t i = -1) := Lib.hid (if_neg (fun e => h e.1))
  have HR := Lib.hid hi
  clear hi
  have HG := Lib.hid h
  clear h
  go_enter Tryz.func83, Tryz.ntmps83
  have c0 := T0.out.c0
  have c1 := T0.out.c1
  have c2 := T0.out.c2
  have c3 := T0.out.c3
  go_wp2_with fail
  refine (implIdx_yes _ HR.out).mono ?_
  rintro e w9 ⟨rfl, rfl⟩
  go_wp2_with fail
  refine (implAt_nogeo T P I Q t _ HG.out _).mono ?_
  rintro e w8 ⟨rfl, hb⟩
  have B8 : Hid (Below w.heap.size w w8) := Lib.hid (B0.out.trans (hb.mono B0.out.size))
  clear hb
  go_wp2
  go_ret
  exact ⟨by rw [HJ.out]; rfl, B8.out⟩
set_option maxRecDepth 100000 in
set_option maxHeartbeats 1000000 in
theorem implInode_nogn (T P I Q : Int) (t i : Int) (h : ¬ GeoR T P I Q) (hi : ¬ (0 ≤ i ∧ i < I)) (w : World) : Calls Tryz.prog 83 #[.agg #[.int .i64 T, .int .i64 P, .int .i64 I, .int .i64 Q], .int .i64 t, .int .i64 i] w (SaysI (inodV T P I Q t i) w) := by
  have T0 := Lib.hid (Four.alloc w T P I Q 25)
  have B0 := Lib.hid (below_al w (.cells #[.int .i64 T, .int .i64 P, .int .i64 I, .int .i64 Q] 25))
  have HJ : Hid (inodV T P I Q t i = -1) := Lib.hid (if_neg (fun e => h e.1))
  have HR := Lib.hid hi
  clear hi
  have HG := Lib.hid h
  clear h
  go_enter Tryz.func83, Tryz.ntmps83
  have c0 := T0.out.c0
  have c1 := T0.out.c1
  have c2 := T0.out.c2
  have c3 := T0.out.c3
  go_wp2_with fail
  refine (implIdx_no _ HR.out).mono ?_
  rintro e w9 ⟨rfl, rfl⟩
  go_wp2
  go_ret
  exact ⟨by rw [HJ.out]; rfl, B0.out⟩
theorem implInode_nog (T P I Q t i : Int) (h : ¬ GeoR T P I Q) (w : World) : Calls Tryz.prog 83 #[.agg #[.int .i64 T, .int .i64 P, .int .i64 I, .int .i64 Q], .int .i64 t, .int .i64 i] w (SaysI (inodV T P I Q t i) w) := by
  by_cases hi : 0 ≤ i ∧ i < I
  · exact implInode_nogy T P I Q t i h hi w
  · exact implInode_nogn T P I Q t i h hi w
theorem implInode_any (T P I Q t i : Int) (w : World) : Calls Tryz.prog 83 #[.agg #[.int .i64 T, .int .i64 P, .int .i64 I, .int .i64 Q], .int .i64 t, .int .i64 i] w (SaysI (inodV T P I Q t i) w) := by
  by_cases hg : GeoR T P I Q
  · by_cases hi : 0 ≤ i ∧ i ≤ I - 1
    · exact implInode_yes T P I Q t i hg hi w
    · exact implInode_noi T P I Q t i hg hi w
  · exact implInode_nog T P I Q t i hg w
end Go.Proofs.YtkfkjcadmdcbnaaGreatDoor
namespace Go.Proofs.YtkfkjcadmdcbnaaGreatDoor
open Go.RowKit

set_option maxRecDepth 100000 in
set_option maxHeartbeats 1000000 in
theorem implSerial_any (T P I Q : Int) (t : Int) (w : World) : Calls Tryz.prog 78 #[.agg #[.int .i64 T, .int .i64 P, .int .i64 I, .int .i64 Q], .int .i64 t] w (SaysI (placeV T P I Q t 2) w) := by
  have T0 := Lib.hid (Four.alloc w T P I Q 25)
  have B0 := Lib.hid (below_al w (.cells #[.int .i64 T, .int .i64 P, .int .i64 I, .int .i64 Q] 25))
  go_enter Tryz.func78, Tryz.ntmps78
  go_wp2_with fail
  refine (implAt_any T P I Q t (2) (fun _ => by omega) _).mono ?_
  rintro e w8 ⟨rfl, hb⟩
  have B8 : Hid (Below w.heap.size w w8) := Lib.hid (B0.out.trans (hb.mono B0.out.size))
  clear hb
  obtain ⟨v, hv⟩ : ∃ v, placeV T P I Q t (2) = v := ⟨_, rfl⟩
  rw [hv]
  have HV := Lib.hid hv
  clear hv
  go_wp2
  go_ret
  exact ⟨by rw [HV.out]; rfl, B8.out⟩
end Go.Proofs.YtkfkjcadmdcbnaaGreatDoor
namespace Go.Proofs.YtkfkjcadmdcbnaaGreatDoor
open Go.RowKit Go.Proofs.YtkfkjcadmdcbnaaGreatDoor.Parts Go.Proofs.YtkfkjcadmdcbnaaGreatDoor.Hexa Go.Proofs.YtkfkjcadmdcbnaaGreatDoor.Byt

set_option maxRecDepth 100000 in
set_option maxHeartbeats 1000000 in
theorem implRecWord_no (p q : Int) (m : ByteArray) (w : World) (_hm : m.size ≤ 2000000) (h : ¬ RecOk ⟨p, q, m⟩) :
    Calls Tryz.prog 184 #[.agg #[.int .i64 p, .int .i64 q, .string m]] w (SaysT ⟨#[]⟩ w) := by
  by_cases h0 : 1 ≤ p ∧ p ≤ 12
  · have H0 := Lib.hid h0
    by_cases h1 : 1 ≤ q ∧ q ≤ 16777215
    · have H1 := Lib.hid h1
      have h2 : ¬ m.size = 4 := fun e => h ⟨h0, h1, e⟩
      have e8 : ((m.size : Int) == 4) = false := by simp; omega
      have e9 : ((m.size : Int) != 4) = true := by simp; omega
      clear h0 h1 h
      go_enter Tryz.func184, Tryz.ntmps184
      go_wp2_with (first | ((with_reducible refine (implIn_yes _ H0.out).mono ?_); rintro e w1 ⟨rfl, rfl⟩) | ((with_reducible refine (implIn_yes _ H1.out).mono ?_); rintro e w1 ⟨rfl, rfl⟩))
      go_ret
      exact ⟨rfl, below_bk w _⟩
    · have H1 := Lib.hid h1
      clear h0 h1 h
      go_enter Tryz.func184, Tryz.ntmps184
      go_wp2_with (first | ((with_reducible refine (implIn_yes _ H0.out).mono ?_); rintro e w1 ⟨rfl, rfl⟩) | ((with_reducible refine (implIn_no _ H1.out).mono ?_); rintro e w1 ⟨rfl, rfl⟩))
      go_ret
      exact ⟨rfl, below_bk w _⟩
  · have H0 := Lib.hid h0
    clear h0 h
    go_enter Tryz.func184, Tryz.ntmps184
    go_wp2_with ((with_reducible refine (implIn_no _ H0.out).mono ?_); rintro e w1 ⟨rfl, rfl⟩)
    go_ret
    exact ⟨rfl, below_bk w _⟩

set_option maxRecDepth 100000 in
set_option maxHeartbeats 1000000 in
theorem implRecWord_yes (p q : Int) (m : ByteArray) (w : World) (h : RecOk ⟨p, q, m⟩) :
    Calls Tryz.prog 184 #[.agg #[.int .i64 p, .int .i64 q, .string m]] w (SaysT (recWordB ⟨p, q, m⟩) w) := by
  have HE := Lib.hid (recWordB_yes h)
  obtain ⟨h0, h1, h2⟩ := h
  have H0 : Hid (1 ≤ p ∧ p ≤ 12) := Lib.hid h0
  have H1 : Hid (1 ≤ q ∧ q ≤ 16777215) := Lib.hid h1
  have hm4 : m.size = 4 := h2
  have e8 : ((m.size : Int) == 4) = true := by simp; omega
  have e9 : ((m.size : Int) != 4) = false := by simp; omega
  have T0 := Lib.hid (Bk.alloc w #[.int .i64 p, .int .i64 q, .string m] 139)
  have B0 := Lib.hid (below_bk w (.cells #[.int .i64 p, .int .i64 q, .string m] 139))
  have hA : (numTextB p 1).size = 1 := numText_size (k := 1) (by omega) (by have := H0.out.1; omega) (by have := H0.out.2; omega)
  have hB : (numTextB q 3).size = 3 := numText_size (k := 3) (by omega) (by have := H1.out.1; omega) (by have := H1.out.2; omega)
  obtain ⟨A, hAe⟩ : ∃ A, numTextB p 1 = A := ⟨_, rfl⟩
  obtain ⟨D, hDe⟩ : ∃ D, numTextB q 3 = D := ⟨_, rfl⟩
  have HA := Lib.hid hAe
  have HD := Lib.hid hDe
  rw [hAe] at hA
  rw [hDe] at hB
  have hA1 : A.size ≤ 1 := by omega
  have hB1 : D.size ≤ 3 := by omega
  have hAD : ¬ (9223372036854775807 < A.size + D.size) := by omega
  have hADm : ¬ (9223372036854775807 < A.size + D.size + 4) := by omega
  clear h0 h1 h2 hAe hDe hA hB
  go_enter Tryz.func184, Tryz.ntmps184
  go_wp2_with (first | ((with_reducible refine (implIn_yes _ H0.out).mono ?_); rintro e w1 ⟨rfl, rfl⟩) | ((with_reducible refine (implIn_yes _ H1.out).mono ?_); rintro e w1 ⟨rfl, rfl⟩))
  have T0d := Lib.hid T0.out.drew
  have B0d : Hid (Below w.heap.size w (w.alloc (.cells #[.int .i64 p, .int .i64 q, .string m] 139)).drew) := Lib.hid B0.out.drew
  go_region_held3 (fun w' => w'.cell? ⟨w.heap.size, 0, none⟩ = some (.int .i64 p) ∧ w'.cell? ⟨w.heap.size, 1, none⟩ = some (.int .i64 q) ∧ w'.cell? ⟨w.heap.size, 2, none⟩ = some (.string m))
    (first
      | exact ⟨T0d.out.cell rfl, T0d.out.cell rfl, T0d.out.cell rfl⟩
      | exact ⟨T1.out.cell rfl, T1.out.cell rfl, T1.out.cell rfl⟩
      | exact ⟨T2.out.cell rfl, T2.out.cell rfl, T2.out.cell rfl⟩
      | go_keep)
    (first
      | (go_at_call 180; (with_reducible refine (implNum_any p 1 _ (by have := H0.out.2; omega)).mono ?_); rw [HA.out]; rintro e w1 ⟨rfl, hb⟩; have T1 := Lib.hid (T0d.out.later hb); have B1 : Hid (Below w.heap.size w w1) := Lib.hid (B0d.out.trans (hb.mono B0d.out.size)); clear hb)
      | (go_at_call 180; (with_reducible refine (implNum_any q 3 _ (by have := H1.out.2; omega)).mono ?_); rw [HD.out]; rintro e w2 ⟨rfl, hb⟩; have T2 := Lib.hid (T1.out.later hb); have B2 : Hid (Below w.heap.size w w2) := Lib.hid (B1.out.trans (hb.mono B1.out.size)); clear hb))
  go_wp2
  go_ret
  exact ⟨by rw [HE.out, HA.out, HD.out]; rfl, B2.out⟩
theorem implRecWord_any (p q : Int) (m : ByteArray) (w : World) (hm : m.size ≤ 2000000) :
    Calls Tryz.prog 184 #[.agg #[.int .i64 p, .int .i64 q, .string m]] w (SaysT (recWordB ⟨p, q, m⟩) w) := by
  by_cases h : RecOk ⟨p, q, m⟩
  · exact implRecWord_yes p q m w h
  · rw [recWordB_no h]; exact implRecWord_no p q m w hm h
end Go.Proofs.YtkfkjcadmdcbnaaGreatDoor
namespace Go.Proofs.YtkfkjcadmdcbnaaGreatDoor
open Go.RowKit

set_option maxRecDepth 100000 in
set_option maxHeartbeats 400000 in
theorem cloneText_any (s : ByteArray) (w : World) (hs : s.size ≤ 2000000) :
    Calls Tryz.prog 39 #[.string s] w fun e w' => e = .returned (.string s) ∧ Below w.heap.size w w' := by
  go_enter Tryz.func39, Tryz.ntmps39
  go_wp2_with (go_at_call 102; refine (Tryz.stringslite_Clone _ _ (by omega)).mono ?_; rintro e w1 ⟨rfl, hb1⟩)
  go_ret
  exact ⟨rfl, hb1⟩
end Go.Proofs.YtkfkjcadmdcbnaaGreatDoor
namespace Go.Proofs.YtkfkjcadmdcbnaaGreatDoor
open Go.RowKit Go.Proofs.YtkfkjcadmdcbnaaGreatDoor.Parts Go.Proofs.YtkfkjcadmdcbnaaGreatDoor.Hexa Go.Proofs.YtkfkjcadmdcbnaaGreatDoor.Byt

set_option maxRecDepth 100000 in
set_option maxHeartbeats 1000000 in
theorem implReadRec_len (s : ByteArray) (w : World) (_hs : s.size ≤ 2000000) (h : ¬ s.size = 8) :
    Calls Tryz.prog 142 #[.string s] w (SaysRec ⟨0, 0, ⟨#[]⟩⟩ false w) := by
  have R0 := Bk.alloc w #[.int .i64 0, .int .i64 0, .string ⟨#[]⟩] 139
  have B0 := Lib.hid (below_bk w (.cells #[.int .i64 0, .int .i64 0, .string ⟨#[]⟩] 139))
  have e8 : ((s.size : Int) == 8) = false := by simp; omega
  have e9 : ((s.size : Int) != 8) = true := by simp; omega
  clear R0
  go_enter Tryz.func142, Tryz.ntmps142
  go_wp2
  refine bodyPost_ret (v := .tuple #[.agg #[.int .i64 0, .int .i64 0, .string ⟨#[]⟩], .bool false]) ?_ rfl ⟨rfl, ?_⟩
  · simp [results, Tryz.results142, go_sem]
  · exact B0.out

set_option maxRecDepth 100000 in
set_option maxHeartbeats 1000000 in
theorem implReadRec_yes (s : ByteArray) (w : World) (h8 : s.size = 8) (h : RecOk (recOf s)) :
    Calls Tryz.prog 142 #[.string s] w (SaysRec (recOf s) true w) := by
  have R0 := Lib.hid (Bk.alloc w #[.int .i64 0, .int .i64 0, .string ⟨#[]⟩] 139)
  have B0 := Lib.hid (below_bk w (.cells #[.int .i64 0, .int .i64 0, .string ⟨#[]⟩] 139))
  have e8 : ((s.size : Int) == 8) = true := by simp; omega
  have e9 : ((s.size : Int) != 8) = false := by simp; omega
  have hs8 : s.size ≤ 8 := by omega
  have hs9 : 8 ≤ s.size := by omega
  have HB := Lib.hid (rec_back h8 h)
  have hex : s.extract 4 s.size = (recOf s).f2 := by rw [h8]; rfl
  obtain ⟨P, hP⟩ : ∃ P, numAtV s 0 1 = P := ⟨_, rfl⟩
  obtain ⟨Q, hQ⟩ : ∃ Q, numAtV s 1 3 = Q := ⟨_, rfl⟩
  obtain ⟨M, hM⟩ : ∃ M, s.extract 4 s.size = M := ⟨_, rfl⟩
  have hR : recOf s = ⟨P, Q, M⟩ := by rw [← hP, ← hQ, ← hM, hex]; rfl
  have hMs : M.size ≤ 8 := by rw [← hM, ByteArray.size_extract]; omega
  rw [hR] at HB ⊢
  have HP := Lib.hid hP
  have HQ := Lib.hid hQ
  have HM8 := Lib.hid hMs
  clear h8 h hex hP hQ hR hMs
  go_enter Tryz.func142, Tryz.ntmps142
  go_wp2_with fail
  refine (implNumAt_any s 0 1 _ (by omega)).mono ?_
  rw [HP.out]
  rintro e w1 ⟨rfl, hb⟩
  have R1 := Lib.hid (R0.out.later hb)
  have B1 : Hid (Below w.heap.size w w1) := Lib.hid (B0.out.trans (hb.mono B0.out.size))
  clear hb R0 B0
  go_wp2_with fail
  refine (implNumAt_any s 1 3 _ (by omega)).mono ?_
  rw [HQ.out]
  rintro e w2 ⟨rfl, hb⟩
  have R2 := Lib.hid (R1.out.later hb)
  have B2' : Hid (Below w.heap.size w w2) := Lib.hid (B1.out.trans (hb.mono B1.out.size))
  clear hb R1 B1
  go_wp2_with fail
  refine (cloneText_any M _ (by have := HM8.out; omega)).mono ?_
  rintro e w2x ⟨rfl, hb⟩
  have hba := below_bk w2x (.cells #[.int .i64 P, .int .i64 Q, .string M] 139)
  have R3 := Lib.hid ((R2.out.later hb).later hba)
  have B2 : Below w.heap.size w w2x := B2'.out.trans (hb.mono B2'.out.size)
  have B3 : Hid (Below w.heap.size w (w2x.alloc (.cells #[.int .i64 P, .int .i64 Q, .string M] 139))) := Lib.hid (B2.trans (hba.mono B2.size))
  have X3 := Lib.hid (Bk.alloc w2x #[.int .i64 P, .int .i64 Q, .string M] 139)
  clear hb hba B2 R2 B2'
  go_wp2_with fail
  refine (implRecWord_any P Q M _ (by have := HM8.out; omega)).mono ?_
  rw [HB.out]
  rintro e w4 ⟨rfl, hb⟩
  have R4 := Lib.hid (R3.out.later hb)
  have X4 := Lib.hid (X3.out.later hb)
  have B4 : Hid (Below w.heap.size w w4) := Lib.hid (B3.out.trans (hb.mono B3.out.size))
  clear hb R3 X3 B3
  have x0 := X4.out.cell (j := 0) rfl
  have x1 := X4.out.cell (j := 1) rfl
  have x2 := X4.out.cell (j := 2) rfl
  have r0 := R4.out.cell (j := 0) rfl
  have r1 := R4.out.cell (j := 1) rfl
  have r2 := R4.out.cell (j := 2) rfl
  have f0 := R4.out.fr (o := 0)
  have f1 := R4.out.fr (o := 1)
  have f2 := R4.out.fr (o := 2)
  have qf := ((R4.out.set 0 (.int .i64 P)).set 1 (.int .i64 Q)).set 2 (.string M)
  have q0 := qf.cell (j := 0) (v := .int .i64 P) rfl
  have q1 := qf.cell (j := 1) (v := .int .i64 Q) rfl
  have q2 := qf.cell (j := 2) (v := .string M) rfl
  clear qf
  go_wp2
  refine bodyPost_ret (v := .tuple #[.agg #[.int .i64 P, .int .i64 Q, .string M], .bool true]) ?_ rfl ⟨rfl, ?_⟩
  · simp [results, Tryz.results142, go_sem, q0, q1, q2]
  · exact ((B4.out.setCell (Nat.le_refl _) _).setCell (Nat.le_refl _) _).setCell (Nat.le_refl _) _
set_option maxRecDepth 100000 in
set_option maxHeartbeats 1000000 in
theorem implReadRec_no (s : ByteArray) (w : World) (h8 : s.size = 8) (h : ¬ RecOk (recOf s)) :
    Calls Tryz.prog 142 #[.string s] w (SaysRec (⟨0, 0, ⟨#[]⟩⟩) false w) := by
  have R0 := Lib.hid (Bk.alloc w #[.int .i64 0, .int .i64 0, .string ⟨#[]⟩] 139)
  have B0 := Lib.hid (below_bk w (.cells #[.int .i64 0, .int .i64 0, .string ⟨#[]⟩] 139))
  have e8 : ((s.size : Int) == 8) = true := by simp; omega
  have e9 : ((s.size : Int) != 8) = false := by simp; omega
  have hs8 : s.size ≤ 8 := by omega
  have hs9 : 8 ≤ s.size := by omega
  have HB := Lib.hid (recWordB_no h)
  have n1 := text_full s (by omega)
  have n2 := text_full' s (by omega)
  have hex : s.extract 4 s.size = (recOf s).f2 := by rw [h8]; rfl
  obtain ⟨P, hP⟩ : ∃ P, numAtV s 0 1 = P := ⟨_, rfl⟩
  obtain ⟨Q, hQ⟩ : ∃ Q, numAtV s 1 3 = Q := ⟨_, rfl⟩
  obtain ⟨M, hM⟩ : ∃ M, s.extract 4 s.size = M := ⟨_, rfl⟩
  have hR : recOf s = ⟨P, Q, M⟩ := by rw [← hP, ← hQ, ← hM, hex]; rfl
  have hMs : M.size ≤ 8 := by rw [← hM, ByteArray.size_extract]; omega
  rw [hR] at HB
  have HP := Lib.hid hP
  have HQ := Lib.hid hQ
  have HM8 := Lib.hid hMs
  clear h8 h hex hP hQ hR hMs
  go_enter Tryz.func142, Tryz.ntmps142
  go_wp2_with fail
  refine (implNumAt_any s 0 1 _ (by omega)).mono ?_
  rw [HP.out]
  rintro e w1 ⟨rfl, hb⟩
  have R1 := Lib.hid (R0.out.later hb)
  have B1 : Hid (Below w.heap.size w w1) := Lib.hid (B0.out.trans (hb.mono B0.out.size))
  clear hb R0 B0
  go_wp2_with fail
  refine (implNumAt_any s 1 3 _ (by omega)).mono ?_
  rw [HQ.out]
  rintro e w2 ⟨rfl, hb⟩
  have R2 := Lib.hid (R1.out.later hb)
  have B2' : Hid (Below w.heap.size w w2) := Lib.hid (B1.out.trans (hb.mono B1.out.size))
  clear hb R1 B1
  go_wp2_with fail
  refine (cloneText_any M _ (by have := HM8.out; omega)).mono ?_
  rintro e w2x ⟨rfl, hb⟩
  have hba := below_bk w2x (.cells #[.int .i64 P, .int .i64 Q, .string M] 139)
  have R3 := Lib.hid ((R2.out.later hb).later hba)
  have B2 : Below w.heap.size w w2x := B2'.out.trans (hb.mono B2'.out.size)
  have B3 : Hid (Below w.heap.size w (w2x.alloc (.cells #[.int .i64 P, .int .i64 Q, .string M] 139))) := Lib.hid (B2.trans (hba.mono B2.size))
  have X3 := Lib.hid (Bk.alloc w2x #[.int .i64 P, .int .i64 Q, .string M] 139)
  clear hb hba B2 R2 B2'
  go_wp2_with fail
  refine (implRecWord_any P Q M _ (by have := HM8.out; omega)).mono ?_
  rw [HB.out]
  rintro e w4 ⟨rfl, hb⟩
  have R4 := Lib.hid (R3.out.later hb)
  have X4 := Lib.hid (X3.out.later hb)
  have B4 : Hid (Below w.heap.size w w4) := Lib.hid (B3.out.trans (hb.mono B3.out.size))
  clear hb R3 X3 B3
  have x0 := X4.out.cell (j := 0) rfl
  have x1 := X4.out.cell (j := 1) rfl
  have x2 := X4.out.cell (j := 2) rfl
  have r0 := R4.out.cell (j := 0) rfl
  have r1 := R4.out.cell (j := 1) rfl
  have r2 := R4.out.cell (j := 2) rfl
  have f0 := R4.out.fr (o := 0)
  have f1 := R4.out.fr (o := 1)
  have f2 := R4.out.fr (o := 2)
  have qf := ((R4.out.set 0 (.int .i64 0)).set 1 (.int .i64 0)).set 2 (.string ⟨#[]⟩)
  have q0 := qf.cell (j := 0) (v := .int .i64 0) rfl
  have q1 := qf.cell (j := 1) (v := .int .i64 0) rfl
  have q2 := qf.cell (j := 2) (v := .string ⟨#[]⟩) rfl
  clear qf
  go_wp2
  refine bodyPost_ret (v := .tuple #[.agg #[.int .i64 0, .int .i64 0, .string ⟨#[]⟩], .bool false]) ?_ rfl ⟨rfl, ?_⟩
  · simp [results, Tryz.results142, go_sem, q0, q1, q2]
  · exact ((B4.out.setCell (Nat.le_refl _) _).setCell (Nat.le_refl _) _).setCell (Nat.le_refl _) _
theorem implReadRec_any (s : ByteArray) (w : World) (hs : s.size ≤ 2000000) :
    Calls Tryz.prog 142 #[.string s] w (SaysRec (recReadR s) (recReadB s) w) := by
  by_cases h : s.size = 8 ∧ RecOk (recOf s)
  · rw [show recReadR s = recOf s from if_pos h, show recReadB s = true from decide_eq_true h]
    exact implReadRec_yes s w h.1 h.2
  · rw [show recReadR s = ⟨0, 0, ⟨#[]⟩⟩ from if_neg h, show recReadB s = false from decide_eq_false h]
    by_cases h8 : s.size = 8
    · exact implReadRec_no s w h8 (fun e => h ⟨h8, e⟩)
    · exact implReadRec_len s w hs h8
end Go.Proofs.YtkfkjcadmdcbnaaGreatDoor
