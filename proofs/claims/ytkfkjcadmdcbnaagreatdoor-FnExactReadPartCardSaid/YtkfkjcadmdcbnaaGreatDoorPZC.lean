/- Merged texts: StImplC, AppIs, StSpecB, TextEq, WordsEq, StSpecD, Ints, ToInts, IntsB, OwnC, EqualImpl, StImplD, DrewsS, StatesMath, NumFore, NumBack, RecBase, EntryBase, NameMath, PgMath, RecMath. -/
import Derived.Test.YtkfkjcadmdcbnaaGreatDoorPZB
import Derived.Maps.AppendAt
import Derived.Test.YtkfkjcadmdcbnaaGreatDoorRows
import Derived.WalkKit
import Derived.WalkSpells
import Derived.WalkLawsBesides
import Derived.Lib.Hide
import Derived.Deep.QuietTactic
import Derived.BigQuiet
namespace Go.Proofs.YtkfkjcadmdcbnaaGreatDoor
open Go.RowKit Go.Lib Go.Proofs.YtkfkjcadmdcbnaaGreatDoor.Parts Go.Proofs.YtkfkjcadmdcbnaaGreatDoor.Hexa Go.Proofs.YtkfkjcadmdcbnaaGreatDoor.Byt

theorem own_mono1 {w : World} {B B' e : Nat} {v : Value} {n : Nat} {xs : List Value} (h : w.ownsRow B e 1 v n xs) (hb : B' ≤ B) : w.ownsRow B' e 1 v n xs := by
  refine ⟨h.1, ?_⟩
  rcases h.2 with h2 | ⟨g, cap, cur, h1, h2, h3⟩
  · exact .inl h2
  · exact .inr ⟨g, cap, cur, h1, Nat.le_trans hb h2, h3⟩
/-- A text copied over some bytes from place o on, over m bytes at most. -/
def ovT (l : List UInt8) (o m : Nat) (s : ByteArray) : List UInt8 := l.take o ++ (s.extract 0 (min s.size m)).data.toList ++ l.drop (o + min s.size m)
theorem ex_len (s : ByteArray) (m : Nat) : (s.extract 0 (min s.size m)).size = min s.size m := by simp
theorem ovT_len (l : List UInt8) (o m : Nat) (s : ByteArray) (h : o + m ≤ l.length) : (ovT l o m s).length = l.length := by
  have h1 := ex_len s m
  have h2 : (s.extract 0 (min s.size m)).data.toList.length = min s.size m := by rw [Array.length_toList]; exact h1
  unfold ovT
  rw [List.length_append, List.length_append, h2, List.length_take, List.length_drop]
  omega
theorem bytes_copy_at {P : Program} {t e e' u ty : TypeId} {i : TypeInfo} (ht : P.underlying t = some (.slice e')) (hi : P.info? e' = some i) (hs1 : i.size = 1)
    {w : World} {B g c n : Nat} {l : List UInt8} (hn : l.length = n) (h : Bytes w B e (.slice (some ⟨g, 0, none⟩) n c) l) (o m c' : Nat) (hom : o + m ≤ n) (s : ByteArray) :
    ∃ r w', (Builtin.copy_ #[t, u] ty #[.slice (some ⟨g, o, none⟩) m c', .string s]).run P w = .ok r w' ∧ Bytes w' B e (.slice (some ⟨g, 0, none⟩) n c) (ovT l o m s) ∧ Below B w w' := by
  subst hn
  have hln := ovT_len l o m s hom
  obtain ⟨x, hx⟩ : ∃ x, s.extract 0 (min s.size m) = x := ⟨_, rfl⟩
  have hxs : x.size = min s.size m := by rw [← hx]; exact ex_len s m
  rcases h with ⟨h, _⟩ | ⟨g', cap, cur, fz, hv, hb, hg, hfz, hlc, hm, hcs, htk⟩
  · cases h
  · simp at hv
    obtain ⟨rfl, rfl⟩ := hv
    have hst := Byt.run_store P g o e fz (strCells x) 0 cur w hg hfz (by rw [strCells_length]; omega) (strCells_oneCell x)
    have hf : (Builtin.firstCells 1 (min s.size m) (.string s)).run P w = .ok (strCells x).toArray w := by
      simp [Builtin.firstCells, strCells, hx]
      apply Array.ext'
      simp
    simp only [Nat.add_zero, strCells_length] at hst
    refine ⟨goInt ((min s.size m : Nat) : Int), w.setRow g (List.take o cur.toList ++ strCells x ++ List.drop (o + x.size) cur.toList).toArray, ?_, .inr ⟨g, c, (List.take o cur.toList ++ strCells x ++ List.drop (o + x.size) cur.toList).toArray, fz, by rw [hln], hb, setRow_heap w g cur _ e fz hg, ?_, by rw [hln]; exact hlc, hm, ?_, ?_⟩, Byt.below_setRow w hb _⟩
    · have hmm : ∀ a b : Nat, Nat.min a b = min a b := fun _ _ => rfl
      simp [Builtin.copy_, run_underlying ht, Builtin.lenOf, sizeOf, typeInfo, hi, hs1, hmm, hf, hst]
    · have hz : (List.take o cur.toList ++ strCells x ++ List.drop (o + x.size) cur.toList).toArray.size = cur.size := by simp [strCells_length]; omega
      rw [hz]; exact hfz
    · simp [strCells_length]; omega
    · rw [hln]
      have e1 : strCells x = bcells x.data.toList := rfl
      have e2 : List.take o cur.toList = bcells (l.take o) := by
        have : bcells (l.take o) = (bcells l).take o := by simp [bcells]
        rw [this, ← htk, List.take_take, Nat.min_eq_left (by omega)]
      have e3 : bcells (l.drop (o + x.size)) = (List.drop (o + x.size) cur.toList).take (l.length - (o + x.size)) := by
        have : bcells (l.drop (o + x.size)) = (bcells l).drop (o + x.size) := by simp [bcells]
        rw [this, ← htk, List.drop_take]
      unfold ovT
      rw [hx, ← hxs, bcells_append, bcells_append, e1, e2, e3]
      have e4 : l.length = (bcells (l.take o) ++ bcells x.data.toList).length + (l.length - (o + x.size)) := by
        rw [List.length_append, bcells_length, bcells_length, List.length_take]; simp; omega
      show List.take l.length _ = _
      conv => lhs; rw [e4]
      rw [List.take_length_add_append]

theorem bytes_all_text {P : Program} {w : World} {B e e' g c : Nat} {l : List UInt8} (src dst : TypeId)
    (hs : P.underlying src = some (.slice e')) (he : P.underlying e' = some (.int .u8)) (hd : P.underlying dst = some .string) {n : Nat} (hn : l.length = n)
    (h : Bytes w B e (.slice (some ⟨g, 0, none⟩) n c) l) (c' : Nat) :
    (convert src dst (.slice (some ⟨g, 0, none⟩) n c')).run P w = .ok (.string ⟨l.toArray⟩) w := by
  subst hn
  exact run_convert_bytes_back (P := P) w src dst e' ⟨g, 0, none⟩ c' l hs he hd (fun j hj => by
    have h1 := (bytes_at h j hj).1
    have hadd : (⟨g, 0, none⟩ : Addr).add j = ⟨g, j, none⟩ := by unfold Addr.add; split <;> simp_all
    rw [hadd, h1])

/-- A fresh array of sixteen bytes. -/
theorem zero16 (w : World) {B : Nat} (hB : B ≤ w.heap.size) (T : TypeId) :
    Bytes (w.alloc (.cells #[.int .u8 0, .int .u8 0, .int .u8 0, .int .u8 0, .int .u8 0, .int .u8 0, .int .u8 0, .int .u8 0, .int .u8 0, .int .u8 0, .int .u8 0, .int .u8 0, .int .u8 0, .int .u8 0, .int .u8 0, .int .u8 0] T)) B T (.slice (some ⟨w.heap.size, 0, none⟩) 16 16) (partB [] 16) :=
  bytes_of_own (l := partB [] 16) (World.ownsRow_lit (e := T) (size := 1) (base := B) w #[.int .u8 0, .int .u8 0, .int .u8 0, .int .u8 0, .int .u8 0, .int .u8 0, .int .u8 0, .int .u8 0, .int .u8 0, .int .u8 0, .int .u8 0, .int .u8 0, .int .u8 0, .int .u8 0, .int .u8 0, .int .u8 0] 16 hB (by decide) rfl)

theorem words16 {l : List UInt8} (h : l.length = 16) : wordsL ⟨l.toArray⟩ = [cutSt l 0, cutSt l 8] := by
  have hs : (⟨l.toArray⟩ : ByteArray).size = 16 := by show l.toArray.size = 16; simp [h]
  have hw : ∀ o, o + 8 ≤ 16 → wordB ((⟨l.toArray⟩ : ByteArray).extract o (o + 8)) = cutSt l o := by
    intro o ho
    have h8 : ((⟨l.toArray⟩ : ByteArray).extract o (o + 8)).size = 8 := by simp [hs]; omega
    unfold wordB
    rw [if_pos (by omega), h8]
    apply ByteArray.ext
    apply Array.ext'
    simp [longB, cutSt]
  unfold wordsL wordsN
  rw [hs]
  show [wordAt _ 0, wordAt _ 1] = _
  unfold wordAt
  rw [hs]
  rw [show min (8 * 0 + 8) 16 = 0 + 8 from rfl, show min (8 * 1 + 8) 16 = 8 + 8 from rfl, show 8 * 0 = 0 from rfl, show 8 * 1 = 8 from rfl, hw 0 (by omega), hw 8 (by omega)]

set_option maxRecDepth 100000 in
set_option maxHeartbeats 1000000 in
theorem implStWords_any (a : Option Addr) (n c : Nat) (zs : List Int) (w : World) (hs : SrcI w a n zs) (hn : n ≤ 2000000) :
    Calls Tryz.prog 138 #[.slice a n c] w (GivesT (stWords zs) w) := by
  have HL := Lib.hid hs.len
  have HS := Lib.hid hs
  clear hs
  by_cases hok : StOk zs n
  · have HB := Lib.hid (stB_yes hok)
    have HW : Hid (stWords zs = [cutSt (partB (stT zs) 16) 0, cutSt (partB (stT zs) 16) 8]) := Lib.hid (stWords_yes (by rw [HL.out]; exact hok))
    have h12 : n ≤ 12 := by have := hok.2.2.2; omega
    have HR : Hid (StR zs n) := Lib.hid (by rw [← HL.out]; exact hok.1)
    clear hok
    go_enter Tryz.func138, Tryz.ntmps138
    go_wp2_with fail
    refine (implStOk_any a n c zs n _ HS.out hn).mono ?_
    rw [HB.out]
    rintro e w1 ⟨rfl, rfl⟩
    have HG0 : Hid (Below w1.heap.size w1 (w1.alloc (.cells #[.int .u8 0, .int .u8 0, .int .u8 0, .int .u8 0, .int .u8 0, .int .u8 0, .int .u8 0, .int .u8 0, .int .u8 0, .int .u8 0, .int .u8 0, .int .u8 0, .int .u8 0, .int .u8 0, .int .u8 0, .int .u8 0] 151))) := Lib.hid ((Below.refl _ _).alloc (Nat.le_refl _) _)
    have HO0 := Lib.hid (zero16 w1 (B := w1.heap.size) (Nat.le_refl _) 151)
    go_wp2
    go_loopw [13] (fun iv wr => ∃ k : Nat, k ≤ n ∧ iv = .int .i64 k ∧ Hid (Bytes wr w1.heap.size 151 (.slice (some ⟨w1.heap.size, 0, none⟩) 16 16) (partB (stT (zs.take k)) 16)) ∧ Hid (Below w1.heap.size w1 wr)) (fun iv _ => n - (RowKit.intOf iv).toNat)
    case atStart => exact ⟨0, Nat.zero_le _, rfl, HO0, HG0⟩
    case round =>
      obtain ⟨k, hk, rfl, HO, HG⟩ := hrel
      clear HO0 HG0
      have hl : (stT (zs.take k)).length = k := by rw [stT_len, List.length_take, HL.out]; omega
      by_cases hlt : k < n
      · obtain ⟨g, off, rfl, hg, d⟩ := HS.out.cell k hlt
        have d0 : wr.cell? ⟨g, off + k, none⟩ = some (.int .i64 (zs.getD k 0)) := by rw [HG.out.cell hg]; exact d
        have HX := Lib.hid (HR.out k hlt)
        have HE := Lib.hid (stT_succ (zs := zs) (k := k) (by rw [HL.out]; exact hlt))
        have hby := st_byte HX.out
        obtain ⟨⟨u, c3⟩, z3, _⟩ := part_at HO.out (by omega)
        have N3 := part_next HO.out (UInt8.ofNat (zs.getD k 0).toNat) (by omega)
        rw [hl] at c3 z3 N3
        rw [← HE.out] at N3
        obtain ⟨x, hx⟩ : ∃ x, zs.getD k 0 = x := ⟨_, rfl⟩
        rw [hx] at d0 hby N3
        clear hx d
        generalize UInt8.ofNat x.toNat = z at hby N3
        have N4 := Lib.hid N3
        have HG2 : Hid (Below w1.heap.size w1 (wr.setCell ⟨w1.heap.size, k, none⟩ (.int .u8 (z.toNat : Int)))) := Lib.hid (HG.out.setCell (Nat.le_refl _) _)
        have hb1 : ¬ g = w1.heap.size := by omega
        have hk16 : (k : Int) < 16 := by omega
        clear N3 hl HX HE
        go_wp2
        go_roundw
        case rel => exact ⟨k + 1, by omega, by go_num, N4, HG2⟩
        case measure => (simp [RowKit.intOf]; try omega)
      · obtain rfl : n = k := by omega
        rw [show zs.take n = zs by rw [← HL.out, List.take_length]] at HO hl
        have hpl := partB_length (stT zs) 16 (by omega)
        have HC := bytes_all_text (P := Tryz.prog) 22 9 Tryz.underlying22 Tryz.underlying5 Tryz.underlying9 hpl HO.out 16
        have HWL := Lib.hid (words16 hpl)
        have HSZ : Hid ((⟨(partB (stT zs) 16).toArray⟩ : ByteArray).size = 16) := Lib.hid (by show (partB (stT zs) 16).toArray.size = 16; rw [List.size_toArray, hpl])
        obtain ⟨S, hS⟩ : ∃ S, (⟨(partB (stT zs) 16).toArray⟩ : ByteArray) = S := ⟨_, rfl⟩
        rw [hS] at HC HWL HSZ
        clear hS hpl hl
        go_wp2_with fail
        refine (implWords_any S _ (by have := HSZ.out; omega)).mono ?_
        rw [HWL.out, ← HW.out]
        rintro e w4 ⟨v4, rfl, ho4, hb4⟩
        have HO4 := Lib.hid (own_mono1 ho4 HG.out.size)
        have HB4 : Hid (Below w1.heap.size w1 w4) := Lib.hid (HG.out.trans (hb4.mono HG.out.size))
        clear ho4 hb4 HC
        go_wp2
        go_ret
        exact ⟨_, rfl, HO4.out, HB4.out⟩
  · have HB := Lib.hid (stB_no hok)
    have HW : Hid (stWords zs = []) := Lib.hid (stWords_no (by rw [HL.out]; exact hok))
    clear hok
    go_enter Tryz.func138, Tryz.ntmps138
    go_wp2_with fail
    refine (implStOk_any a n c zs n _ HS.out hn).mono ?_
    rw [HB.out]
    rintro e w1 ⟨rfl, rfl⟩
    go_wp2
    go_ret
    rw [HW.out]
    exact ⟨_, rfl, World.ownsRow_nil _ _ _ 1, Below.refl _ _⟩
end Go.Proofs.YtkfkjcadmdcbnaaGreatDoor
namespace Go.Proofs.YtkfkjcadmdcbnaaGreatDoor
open Go.RowKit Go.Proofs.YtkfkjcadmdcbnaaGreatDoor.Parts Go.Proofs.YtkfkjcadmdcbnaaGreatDoor.Hexa

def encI : Enc Int := ⟨1, fun x => [.int .i64 x], fun _ => rfl⟩
theorem cellsI_eq : ∀ L : List Int, cellsE encI L = icells L
  | [] => rfl
  | x :: r => by rw [cellsE, cellsI_eq r]; rfl
theorem srcE_of_srcI {w : World} {a : Option Addr} {n : Nat} {zs : List Int} (h : SrcI w a n zs) : SrcE encI w a n zs := by
  refine ⟨h.len, fun j hj => ?_⟩
  obtain ⟨g, off, e, hg, hc⟩ := h.cell j hj
  refine ⟨g, off, e, hg, fun r v hr => ?_⟩
  cases r with
  | zero =>
    cases hr
    rw [show off + j * encI.k + 0 = off + j from by show off + j * 1 + 0 = off + j; omega]
    exact hc
  | succ r => cases hr
theorem srcI_of_srcE {w : World} {a : Option Addr} {n : Nat} {zs : List Int} (h : SrcE encI w a n zs) : SrcI w a n zs := by
  refine ⟨h.len, fun j hj => ?_⟩
  obtain ⟨g, off, e, hg, hc⟩ := h.cell j hj
  have h9 := hc 0 _ rfl
  rw [show off + j * encI.k + 0 = off + j from by show off + j * 1 + 0 = off + j; omega] at h9
  exact ⟨g, off, e, hg, h9⟩
theorem srcI_of_own {w : World} {B e n cap : Nat} {a : Option Addr} {zs : List Int} (h : w.ownsRow B e 1 (.slice a n cap) n (icells zs)) : SrcI w a n zs :=
  srcI_of_srcE (srcE_of_own (E := encI) (by rw [cellsI_eq]; exact h) (by decide))
theorem srcI_take {w : World} {a : Option Addr} {n q : Nat} {zs : List Int} (h : SrcI w a n zs) (hq : q ≤ n) : SrcI w a q (zs.take q) :=
  ⟨by rw [List.length_take, h.len]; omega, fun j hj => by
    obtain ⟨g, off, e, hg, hc⟩ := h.cell j (by omega)
    refine ⟨g, off, e, hg, ?_⟩
    rw [hc]
    simp only [List.getD, List.getElem?_take]
    rw [if_pos hj]⟩
theorem emptyI (w : World) (B : Nat) (hB : B ≤ w.heap.size) : (w.alloc (.cells #[] 3)).ownsRow B 3 1 (.slice (some ⟨w.heap.size, 0, none⟩) 0 0) 0 (icells []) := World.ownsRow_lit w #[] 0 hB (by decide) rfl
theorem appIs (w : World) (ty : TypeId) (B : Nat) (v : Value) (n : Nat) (L : List Int) (hown : w.ownsRow B 3 1 v n (icells L)) (hB : B ≤ w.heap.size) (a : Option Addr) (m c : Nat) (M : List Int) (hs : SrcI w a m M) (hnm : n + m ≤ 100000000) :
    AppE Tryz.prog #[49, 49] ty #[v, .slice a m c] w B 3 1 (n + m) (icells (L ++ M)) v := by
  obtain ⟨i0, hi, hz0, hz1, hz2⟩ := info_parts infoInt
  rw [show icells (L ++ M) = icells L ++ icells M by simp [icells]]
  cases a with
  | none =>
    have hm0 : m = 0 := by
      rcases Nat.eq_zero_or_pos m with h | h
      · exact h
      · obtain ⟨g, off, e, _⟩ := hs.cell 0 h; cases e
    subst hm0
    have hM : M = [] := List.length_eq_zero_iff.1 hs.len
    subst hM
    exact ⟨v, w, run_append_nothing w B _ ty _ i0 1 Tryz.underlying49 hi v n c _ hown, by simpa [icells] using hown, ⟨rfl, rfl, rfl, Nat.le_refl _, fun _ _ _ => rfl⟩, .inl rfl⟩
  | some p =>
    obtain ⟨v', w', hr, h2, h3, _, h5⟩ := run_append_own_at (P := Tryz.prog) w B 49 ty 3 i0 _ 1 8 Tryz.underlying49 hi hz0 hz1 hz2 rfl (by decide) v n _ hown p m c (icells M) (by rw [icells_length, hs.len]; omega) (by rw [← cellsI_eq]; exact (srcE_of_srcI hs).news (by decide)) (by simp [icells, Value.oneCell']) (by unfold maxLen; omega) (by omega) hB
    exact ⟨v', w', hr, h2, h3, h5⟩
end Go.Proofs.YtkfkjcadmdcbnaaGreatDoor
namespace Go.Proofs.YtkfkjcadmdcbnaaGreatDoor
open Go.RowKit Go.Proofs.YtkfkjcadmdcbnaaGreatDoor.Parts Go.Proofs.YtkfkjcadmdcbnaaGreatDoor.Hexa

/-- Some slice of ints of the call's own, and whether there is one. -/
def GivesIB (P : List Int) (b : Bool) (w : World) (e : Ending) (w' : World) : Prop :=
  ∃ v, e = .returned (.tuple #[v, .bool b]) ∧ w'.ownsRow w.heap.size 3 1 v P.length (icells P) ∧ Below w.heap.size w w'
def firstB (zs : List Int) (q : Int) : Bool := decide (0 ≤ q ∧ q ≤ ((withSt zs 0 zs.length).length : Int))
def firstR (zs : List Int) (q : Int) : List Int := if firstB zs q = true then (withSt zs 0 zs.length).take q.toNat else []
/-- One place set, if it is there. -/
def setSt (L : List Int) (p s : Int) : List Int := if 0 ≤ p ∧ p ≤ (L.length : Int) - 1 then L.set p.toNat s else L
theorem setSt_len (L : List Int) (p s : Int) : (setSt L p s).length = L.length := by unfold setSt; split <;> simp
def setAll (L ps : List Int) (s : Int) : List Int := ps.foldl (fun L p => setSt L p s) L
theorem setAll_len (L ps : List Int) (s : Int) : (setAll L ps s).length = L.length := by
  unfold setAll
  induction ps generalizing L with
  | nil => rfl
  | cons p r ih => rw [List.foldl_cons, ih, setSt_len]
theorem setAll_succ {L ps : List Int} {s : Int} {k : Nat} (h : k < ps.length) : setAll L (ps.take (k + 1)) s = setSt (setAll L (ps.take k) s) (ps.getD k 0) s := by
  unfold setAll
  rw [List.take_succ_eq_append_getElem h, List.foldl_append]
  simp [List.getD, h]


end Go.Proofs.YtkfkjcadmdcbnaaGreatDoor
namespace Go.Proofs.YtkfkjcadmdcbnaaGreatDoor
open Go.RowKit

theorem text_full (x : ByteArray) (h : 0 < x.size) : (x.toList == []) = false := by
  apply beq_eq_false_iff_ne.2
  intro e
  have h1 : x.toList.length = x.size := by rw [Go.ByteArray.toList_eq]; simp
  rw [e] at h1
  simp at h1
  omega
theorem text_full' (x : ByteArray) (h : 0 < x.size) : ([] == x.toList) = false := by
  have h1 := text_full x h
  apply beq_eq_false_iff_ne.2
  intro e
  rw [← e] at h1
  simp at h1
theorem text_ne {x y : ByteArray} (h : ¬ x = y) : ¬ (x.toList = y.toList) := by
  intro e
  apply h
  rw [Go.ByteArray.toList_eq, Go.ByteArray.toList_eq] at e
  cases x; cases y
  simp at e
  rw [e]
theorem text_neB {x y : ByteArray} (h : ¬ x = y) : (x.toList == y.toList) = false := beq_eq_false_iff_ne.2 (text_ne h)
end Go.Proofs.YtkfkjcadmdcbnaaGreatDoor
namespace Go.Proofs.YtkfkjcadmdcbnaaGreatDoor
open Go.RowKit Go.Proofs.YtkfkjcadmdcbnaaGreatDoor.Parts Go.Proofs.YtkfkjcadmdcbnaaGreatDoor.Hexa

set_option maxRecDepth 100000 in
set_option maxHeartbeats 1000000 in
theorem wordsEq_any (a1 a2 : Option Addr) (n m c1 c2 : Nat) (P Q : List ByteArray) (w : World) (hn : n ≤ 100000000) (r1 : SrcT w a1 n P) (r2 : SrcT w a2 m Q) (b : Bool) (hb : b = true ↔ P = Q) :
    Calls Tryz.prog 120 #[.slice a1 n c1, .slice a2 m c2] w fun e w' => e = .returned (.bool b) ∧ ∃ q, w' = w.drewN q := by
  have hP := r1.len
  have hQ := r2.len
  by_cases hnm : n = m
  · subst hnm
    have HG := Lib.hid hb
    have HP := Lib.hid hP
    have HQ := Lib.hid hQ
    have R1 := Lib.hid r1
    have R2 := Lib.hid r2
    clear r1 r2 hb hP hQ
    go_enter Tryz.func120, Tryz.ntmps120
    go_wp2
    go_loopw [5] (fun iv wr => ∃ k q : Nat, k ≤ n ∧ iv = .int .i64 k ∧ wr = w.drewN q ∧ Hid (∀ j, j < k → P.getD j default = Q.getD j default)) (fun iv _ => n - (intOf iv).toNat)
    case atStart => exact ⟨0, 0, Nat.zero_le _, rfl, rfl, Lib.hid (fun j hj => by omega)⟩
    case round =>
      obtain ⟨k, q, hk, rfl, rfl, HA⟩ := hrel
      by_cases hlt : k < n
      · obtain ⟨g1, o1, e1, _, d1⟩ := srcT_at R1.out k hlt
        obtain ⟨g2, o2, e2, _, d2⟩ := srcT_at R2.out k hlt
        obtain ⟨x, hx⟩ : ∃ x, P.getD k default = x := ⟨_, rfl⟩
        obtain ⟨y, hy⟩ : ∃ y, Q.getD k default = y := ⟨_, rfl⟩
        rw [hx] at d1
        rw [hy] at d2
        have HX := Lib.hid hx
        have HY := Lib.hid hy
        subst e1 e2
        clear hx hy
        by_cases hxy : x = y
        · subst hxy
          have HA2 : Hid (∀ j, j < k + 1 → P.getD j default = Q.getD j default) := Lib.hid (fun j hj => by
            by_cases e : j = k
            · subst e; rw [HX.out, HY.out]
            · exact HA.out j (by omega))
          go_wp2
          go_quiet (fail)
          go_wp2
          go_roundw
          case rel => exact ⟨k + 1, _, by omega, by go_num, rfl, HA2⟩
          case measure => (simp [intOf]; try omega)
        · have i1 := text_neB hxy
          have i2 : (x.toList != y.toList) = true := by simp only [bne, i1]; rfl
          have i3 := text_ne hxy
          have HE : Hid (b = false) := Lib.hid (by
            cases b
            · rfl
            · exact absurd (by rw [← HX.out, ← HY.out, HG.out.1 rfl]) hxy)
          clear hxy
          go_wp2
          go_quiet (fail)
          go_wp2
          go_ret
          exact ⟨by rw [HE.out]; rfl, _, by rw [World.drewN_drewN]⟩
      · obtain rfl : k = n := by omega
        have HE : Hid (b = true) := Lib.hid (HG.out.2 (texts_eq HP.out HQ.out HA.out))
        go_wp2
        go_ret
        exact ⟨by rw [HE.out]; rfl, _, rfl⟩
  · have e1 : ((n : Int) == (m : Int)) = false := by simp; omega
    have e2 : ((n : Int) != (m : Int)) = true := by simp only [bne, e1]; rfl
    have HE : Hid (b = false) := Lib.hid (by
      cases b
      · rfl
      · exact absurd (by rw [← hP, ← hQ, hb.1 rfl]) hnm)
    clear r1 r2 hP hQ hb
    go_enter Tryz.func120, Tryz.ntmps120
    go_wp2
    go_ret
    exact ⟨by rw [HE.out]; rfl, 0, rfl⟩
end Go.Proofs.YtkfkjcadmdcbnaaGreatDoor
namespace Go.Proofs.YtkfkjcadmdcbnaaGreatDoor
open Go.RowKit Go.Proofs.YtkfkjcadmdcbnaaGreatDoor.Parts Go.Proofs.YtkfkjcadmdcbnaaGreatDoor.Hexa Go.Proofs.YtkfkjcadmdcbnaaGreatDoor.Byt

/-- The first k bytes as ints. -/
def bytesI (s : ByteArray) (k : Nat) : List Int := (s.data.toList.take k).map fun b => (b.toNat : Int)
theorem bytesI_zero (s : ByteArray) : bytesI s 0 = [] := rfl
theorem bytesI_succ {s : ByteArray} {k : Nat} (h : k < s.size) : bytesI s (k + 1) = bytesI s k ++ [((s[k]'h).toNat : Int)] := by
  have h' : k < s.data.toList.length := by simpa using h
  unfold bytesI
  rw [List.take_succ_eq_append_getElem h', List.map_append]
  rfl
theorem bytesI_len {s : ByteArray} {k : Nat} (h : k ≤ s.size) : (bytesI s k).length = k := by
  unfold bytesI; rw [List.length_map, List.length_take]; simp; omega
def listSt (P : List ByteArray) (p : Int) : List Int := bytesI (P.getD 0 default ++ P.getD 1 default) p.toNat
def RdOk (P : List ByteArray) (p : Int) : Prop := P.length = 2 ∧ (P.getD 0 default).size = 8 ∧ (P.getD 1 default).size = 8 ∧ (1 ≤ p ∧ p ≤ 12) ∧ stWords (listSt P p) = P
noncomputable def rdB (P : List ByteArray) (p : Int) : Bool := @decide (RdOk P p) (Classical.propDecidable _)
noncomputable def rdR (P : List ByteArray) (p : Int) : List Int := if rdB P p = true then listSt P p else []
theorem rdB_yes {P : List ByteArray} {p : Int} (h : RdOk P p) : rdB P p = true := by unfold rdB; exact @decide_eq_true _ (Classical.propDecidable _) h
theorem rdB_no {P : List ByteArray} {p : Int} (h : ¬ RdOk P p) : rdB P p = false := by unfold rdB; exact @decide_eq_false _ (Classical.propDecidable _) h
theorem rdR_yes {P : List ByteArray} {p : Int} (h : RdOk P p) : rdR P p = listSt P p := if_pos (rdB_yes h)
theorem rdR_no {P : List ByteArray} {p : Int} (h : ¬ RdOk P p) : rdR P p = [] := if_neg (by rw [rdB_no h]; decide)

section
variable (a : Option Addr) (n c : Nat) (P : List ByteArray) (p : Int) (w : World)
theorem rd_nothing {w w' : World} (hb : Below w.heap.size w w') (h : ¬ RdOk P p) : GivesIB (rdR P p) (rdB P p) w (.returned (.tuple #[.slice (some ⟨w'.heap.size, 0, none⟩) 0 0, .bool false])) (w'.alloc (.cells #[] 3)) := by
  rw [rdR_no h, rdB_no h]
  exact ⟨_, rfl, emptyI w' w.heap.size hb.size, hb.alloc hb.size _⟩

set_option maxRecDepth 100000 in
set_option maxHeartbeats 1000000 in
theorem specReadSt_len (hs : SrcT w a n P) (h : ¬ n = 2) : Calls Tryz.prog 67 #[.slice a n c, .int .i64 p] w (GivesIB (rdR P p) (rdB P p) w) := by
  have HN : Hid (¬ RdOk P p) := Lib.hid (fun x => h (by rw [← hs.len]; exact x.1))
  have e8 : ((n : Int) == 2) = false := by simp; omega
  have e9 : ((n : Int) != 2) = true := by simp only [bne, e8]; rfl
  have HR := Lib.hid (rd_nothing P p (Below.refl w.heap.size w) HN.out)
  clear hs h
  go_enter Tryz.func67, Tryz.ntmps67
  go_wp2
  refine bodyPost_ret (v := .tuple #[.slice (some ⟨w.heap.size, 0, none⟩) 0 0, .bool false]) ?_ rfl HR.out
  simp [results, Tryz.results67, go_sem]

set_option maxRecDepth 100000 in
set_option maxHeartbeats 2000000 in
theorem specReadSt_any (hs : SrcT w a n P) (hm : ∀ j, j < n → (P.getD j default).size ≤ 2000000) : Calls Tryz.prog 67 #[.slice a n c, .int .i64 p] w (GivesIB (rdR P p) (rdB P p) w) := by
  by_cases h2 : n = 2
  · subst h2
    obtain ⟨i0, hi, hz0, hz1, hz2⟩ := info_parts infoInt
    have HS := Lib.hid hs
    obtain ⟨g, off, rfl, hg, d0⟩ := srcT_at hs 0 (by omega)
    obtain ⟨g', off', e', _, d1⟩ := srcT_at hs 1 (by omega)
    cases e'
    obtain ⟨A, hA⟩ : ∃ A, P.getD 0 default = A := ⟨_, rfl⟩
    obtain ⟨B, hB⟩ : ∃ B, P.getD 1 default = B := ⟨_, rfl⟩
    have m0 := hm 0 (by omega)
    have m1 := hm 1 (by omega)
    rw [hA, Nat.add_zero] at d0
    rw [hA] at m0
    rw [hB] at d1 m1
    have HA := Lib.hid hA
    have HB := Lib.hid hB
    clear hs hm hA hB
    by_cases hA8 : A.size = 8
    · by_cases hB8 : B.size = 8
      · have a8 : ((A.size : Int) != 8) = false := by rw [hA8]; rfl
        have b8 : ((B.size : Int) != 8) = false := by rw [hB8]; rfl
        by_cases hp : 1 ≤ p ∧ p ≤ 12
        · obtain ⟨q, rfl⟩ : ∃ q : Nat, p = q := ⟨p.toNat, by omega⟩
          have hS16 : (A ++ B).size = 16 := by rw [ByteArray.size_append]; omega
          have HLS : Hid (listSt P (q : Int) = bytesI (A ++ B) q) := Lib.hid (by unfold listSt; rw [HA.out, HB.out]; rfl)
          have HOK : Hid (stWords (listSt P (q : Int)) = P → RdOk P (q : Int)) := Lib.hid (fun h => ⟨HS.out.len, by rw [HA.out]; exact hA8, by rw [HB.out]; exact hB8, hp, h⟩)
          go_enter Tryz.func67, Tryz.ntmps67
          go_wp2_with fail
          refine (range_yes _ hp).mono ?_
          rintro e w1 ⟨rfl, rfl⟩
          have hq12 : q ≤ 12 := by omega
          have hq1 : 1 ≤ q := by omega
          clear hp
          go_wp2
          go_quiet (fail)
          obtain ⟨S, hS⟩ : ∃ S, A ++ B = S := ⟨_, rfl⟩
          rw [hS] at hS16 HLS ⊢
          clear hS
          have HG0 : Hid (Below w1.heap.size w1 ((w1.drewN nq).alloc (.cells #[] 3))) := Lib.hid ((below_drewsN (Below.refl _ _) nq).alloc (Nat.le_refl _) _)
          have HO0 : Hid (((w1.drewN nq).alloc (.cells #[] 3)).ownsRow w1.heap.size 3 1 (.slice (some ⟨w1.heap.size, 0, none⟩) 0 0) 0 (icells (bytesI S 0))) := Lib.hid (emptyI (w1.drewN nq) w1.heap.size (Nat.le_refl _))
          go_wp2
          go_loopw [7, 8] (fun v iv wr => ∃ k : Nat, k ≤ q ∧ iv = .int .i64 k ∧ Hid (wr.ownsRow w1.heap.size 3 1 v k (icells (bytesI S k))) ∧ Hid (Below w1.heap.size w1 wr)) (fun _ iv _ => q - (intOf iv).toNat)
          case atStart => exact ⟨0, Nat.zero_le _, rfl, HO0, HG0⟩
          case round =>
            obtain ⟨k, hk, rfl, HO, HG⟩ := hrel
            clear HO0 HG0
            by_cases hlt : k < q
            · have hks : k < S.size := by omega
              have HE := Lib.hid (bytesI_succ hks)
              have hsz := HG.out.size
              have hwr : wrap64 ((S[k]'hks).toNat : Int) = ((S[k]'hks).toNat : Int) := IntWalk.wrap64_in _ (by have h9 : (S[k]'hks).toNat < 256 := (S[k]'hks).toNat_lt; omega)
              go_wp2_with (at_builtin; refine wpList_append_own _ rfl (.tmp 45) (.tmp 50) 49 rfl w1.heap.size 3 i0 (.int .i64 0) 1 8 Tryz.underlying49 hi hz0 hz1 hz2 rfl (by decide) _ _ _ rfl (HO.out.alloc _) ⟨wr.heap.size, 0, none⟩ 1 1 [.int .i64 ((S[k]'hks).toNat : Int)] rfl rfl (World.news_of_block (heap_alloc_new _ _)) (by simp [Value.oneCell']) (by unfold maxLen; omega) (by omega) (by simp; omega) ?_; intro v2 w2 hown2 hgrow2 hn2)
              have HB2 : Hid (Below w1.heap.size w1 w2) := Lib.hid ((HG.out.alloc hsz _).grown hgrow2 (by simp; omega) (fun k e => (HO.out.lt k e).1))
              have HO2 : Hid (w2.ownsRow w1.heap.size 3 1 v2 (k + 1) (icells (bytesI S (k + 1)))) := Lib.hid (by rw [HE.out]; simpa [icells] using hown2)
              clear hown2 hgrow2 hn2 HO HG
              go_wp2
              go_roundw
              case rel => exact ⟨k + 1, by omega, by go_num, HO2, HB2⟩
              case measure => (simp [intOf]; try omega)
            · obtain rfl : q = k := by omega
              obtain ⟨a3, c3, rfl, hc3, _, _⟩ := ownE_form HO.out
              have X3 : Hid (SrcI wr a3 q (bytesI S q)) := Lib.hid (srcI_of_own HO.out)
              go_wp2_with fail
              refine (specStWords_any a3 q c3 (bytesI S q) _ X3.out (by omega)).mono ?_
              rintro e w4 ⟨v4, rfl, ho4, hb4⟩
              have HG4 := Lib.hid (HG.out.trans (hb4.mono HG.out.size))
              have HO4 := Lib.hid (own_kept (w' := w4) HO.out (fun g hg => hb4.block g (own_block_lt HO.out g hg)))
              obtain ⟨a4, c4, rfl, _, _, _⟩ := ownE_form ho4
              have Y4 := Lib.hid (srcT_of_own ho4)
              have Z4 := Lib.hid (SrcE.later HS.out (HG4.out))
              have hl4 : (stWords (bytesI S q)).length ≤ 2 := by unfold stWords; split <;> simp
              clear ho4 hb4
              obtain ⟨m4, hm4⟩ : ∃ m, (stWords (bytesI S q)).length = m := ⟨_, rfl⟩
              rw [hm4] at Y4 hl4 ⊢
              clear hm4
              by_cases hok : stWords (bytesI S q) = P
              · have HRY : Hid (RdOk P (q : Int)) := Lib.hid (HOK.out (by rw [HLS.out]; exact hok))
                have HF : Hid (rdR P (q : Int) = bytesI S q ∧ rdB P (q : Int) = true) := Lib.hid ⟨by rw [rdR_yes HRY.out, HLS.out], rdB_yes HRY.out⟩
                have HBL : Hid ((bytesI S q).length = q) := Lib.hid (bytesI_len (by omega))
                go_wp2_with fail
                refine (wordsEq_any a4 (some ⟨g, off, none⟩) m4 2 c4 c _ P _ (by omega) Y4.out Z4.out true ⟨fun _ => hok, fun _ => rfl⟩).mono ?_
                rintro e w5 ⟨rfl, q5, rfl⟩
                have HG5 := Lib.hid (below_drewsN HG4.out q5)
                clear hok
                go_wp2
                rw [HF.out.1, HF.out.2]
                refine bodyPost_ret (v := .tuple #[.slice a3 q c3, .bool true]) ?_ rfl ⟨_, rfl, by rw [HBL.out]; exact HO4.out, HG5.out⟩
                simp [results, Tryz.results67, go_sem]
              · have HRN : Hid (¬ RdOk P (q : Int)) := Lib.hid (fun h => hok (by rw [← HLS.out]; exact h.2.2.2.2))
                go_wp2_with fail
                refine (wordsEq_any a4 (some ⟨g, off, none⟩) m4 2 c4 c _ P _ (by omega) Y4.out Z4.out false ⟨fun h => (by cases h), fun h => absurd h hok⟩).mono ?_
                rintro e w5 ⟨rfl, q5, rfl⟩
                have HR := Lib.hid (rd_nothing P (q : Int) (below_drewsN HG4.out q5) HRN.out)
                clear hok
                go_wp2
                refine bodyPost_ret (v := .tuple #[.slice (some ⟨w4.heap.size, 0, none⟩) 0 0, .bool false]) ?_ rfl HR.out
                simp [results, Tryz.results67, go_sem]
        · have HRN : Hid (¬ RdOk P p) := Lib.hid (fun h => hp h.2.2.2.1)
          have HR := Lib.hid (rd_nothing P p (Below.refl w.heap.size w) HRN.out)
          go_enter Tryz.func67, Tryz.ntmps67
          go_wp2_with fail
          refine (range_no _ hp).mono ?_
          rintro e w1 ⟨rfl, rfl⟩
          clear hp
          go_wp2
          refine bodyPost_ret (v := .tuple #[.slice (some ⟨w1.heap.size, 0, none⟩) 0 0, .bool false]) ?_ rfl HR.out
          simp [results, Tryz.results67, go_sem]
      · have a8 : ((A.size : Int) != 8) = false := by rw [hA8]; rfl
        have b8 : ((B.size : Int) != 8) = true := by have : ¬ ((B.size : Int) = 8) := by omega
                                                     simpa using this
        have HRN : Hid (¬ RdOk P p) := Lib.hid (fun h => hB8 (by rw [← HB.out]; exact h.2.2.1))
        have HR := Lib.hid (rd_nothing P p (Below.refl w.heap.size w) HRN.out)
        go_enter Tryz.func67, Tryz.ntmps67
        go_wp2
        refine bodyPost_ret (v := .tuple #[.slice (some ⟨w.heap.size, 0, none⟩) 0 0, .bool false]) ?_ rfl HR.out
        simp [results, Tryz.results67, go_sem]
    · have a8 : ((A.size : Int) != 8) = true := by have : ¬ ((A.size : Int) = 8) := by omega
                                                   simpa using this
      have HRN : Hid (¬ RdOk P p) := Lib.hid (fun h => hA8 (by rw [← HA.out]; exact h.2.1))
      have HR := Lib.hid (rd_nothing P p (Below.refl w.heap.size w) HRN.out)
      go_enter Tryz.func67, Tryz.ntmps67
      go_wp2
      refine bodyPost_ret (v := .tuple #[.slice (some ⟨w.heap.size, 0, none⟩) 0 0, .bool false]) ?_ rfl HR.out
      simp [results, Tryz.results67, go_sem]
  · exact specReadSt_len a n c P p w hs h2
end
end Go.Proofs.YtkfkjcadmdcbnaaGreatDoor
namespace Go.Proofs.YtkfkjcadmdcbnaaGreatDoor
open Go.RowKit Go.Proofs.YtkfkjcadmdcbnaaGreatDoor.Parts Go.Proofs.YtkfkjcadmdcbnaaGreatDoor.Hexa

set_option maxRecDepth 100000 in
set_option maxHeartbeats 1000000 in
theorem eqInts_any (a1 a2 : Option Addr) (n c1 c2 : Nat) (P : List Int) (w : World) (hP : P.length = n) (hn : n ≤ 100000000) (r1 : Reads w a1 (icells P)) (r2 : Reads w a2 (icells P)) :
    Calls Tryz.prog 84 #[.slice a1 n c1, .slice a2 n c2] w fun e w' => e = .returned (.bool true) ∧ ∃ m, w' = w.drewN m := by
  have HP := Lib.hid hP
  clear hP
  have R1 := Lib.hid r1
  have R2 := Lib.hid r2
  clear r1 r2
  go_enter Tryz.func84, Tryz.ntmps84
  go_wp2
  go_loopw [5] (fun iv wr => ∃ k m : Nat, k ≤ n ∧ iv = .int .i64 k ∧ wr = w.drewN m) (fun iv _ => n - (intOf iv).toNat)
  case atStart => exact ⟨0, 0, Nat.zero_le _, rfl, rfl⟩
  case round =>
    obtain ⟨k, m, hk, rfl, rfl⟩ := hrel
    by_cases hlt : k < n
    · obtain ⟨g1, rfl, e1⟩ := R1.out k (by have := HP.out; simp [icells]; omega)
      obtain ⟨g2, rfl, e2⟩ := R2.out k (by have := HP.out; simp [icells]; omega)
      have d1 := cell_int (by have := HP.out; omega) e1
      have d2 := cell_int (by have := HP.out; omega) e2
      obtain ⟨x, hx⟩ : ∃ x, P[k]'(by have := HP.out; omega) = x := ⟨_, rfl⟩
      rw [hx] at d1 d2
      clear e1 e2 hx
      go_wp2
      go_quiet (fail)
      go_wp2
      go_roundw
      case rel => exact ⟨k + 1, _, by omega, by go_num, rfl⟩
      case measure => (simp [intOf]; try omega)
    · obtain rfl : k = n := by omega
      go_wp2
      go_ret
      exact ⟨rfl, _, rfl⟩

/-- The first j ints are the marks from k on. -/
def MarkedI (xs : List Value) (k j : Nat) : Prop := ∀ t, t < j → xs[t]? = some (.int .i64 ((k + t : Nat) : Int))
theorem MarkedI.step {xs : List Value} {k j : Nat} (h : MarkedI xs k j) (hj : j < xs.length) : MarkedI (xs.set j (.int .i64 ((k + j : Nat) : Int))) k (j + 1) := by
  intro t ht
  by_cases e : t = j
  · subst e; simp [hj]
  · rw [List.getElem?_set_ne (by omega)]; exact h t (by omega)

def MarkPostI (base : Nat) (v : Value) (n k : Nat) (w : World) (e : Ending) (w' : World) : Prop :=
  ∃ ys, e = .returned (.int .i64 (k + n)) ∧ w'.ownsRow base 3 1 v n ys ∧ MarkedI ys k n ∧ Below base w w'

set_option maxRecDepth 100000 in
set_option maxHeartbeats 1000000 in
theorem markInts_any (base : Nat) (v : Value) (n k : Nat) (xs : List Value) (w : World) (hk : k + n ≤ 100000000) (hown : w.ownsRow base 3 1 v n xs) :
    Calls Tryz.prog 88 #[v, .int .i64 k] w (MarkPostI base v n k w) := by
  obtain ⟨ad, cap, rfl, hcap, hnc, hr⟩ := own_form hown
  have HO := Lib.hid hown
  clear hown hr
  unfold maxLen at hcap
  go_enter Tryz.func88, Tryz.ntmps88
  go_wp2
  go_loopw [1, 5] (fun kv iv wr => ∃ (j q : Nat) (ys : List Value), j ≤ n ∧ q ≤ k + n ∧ Hid (q = k + j) ∧ Hid (MarkedI ys k j) ∧ iv = .int .i64 j ∧ kv = .int .i64 q ∧ Hid (wr.ownsRow base 3 1 (.slice ad n cap) n ys) ∧ Below base w wr) (fun _ iv _ => n - (intOf iv).toNat)
  case atStart => exact ⟨0, k, xs, Nat.zero_le _, by omega, Lib.hid rfl, Lib.hid (fun t ht => by omega), rfl, rfl, HO, Below.refl _ _⟩
  case round =>
    obtain ⟨j, q, ys, hj, hq, HQ, HM, rfl, rfl, HW, hbel⟩ := hrel
    by_cases hlt : j < n
    · have hl : ys.length = n := own_length HW.out
      obtain ⟨ad', cap', hv, _, _, hr⟩ := own_form HW.out
      obtain ⟨g, hg, hc⟩ := hr j (by omega)
      have hv' : ad = ad' := by simp at hv; exact hv.1
      subst hv'
      subst hg
      have hgb : base ≤ g := own_block_ge HW.out g rfl
      have hM1 := Lib.hid (HM.out.step (by omega))
      have HQ1 : Hid ((q : Nat) = k + j) := HQ
      have hx : wr.cell? ⟨g, j, none⟩ = some (ys[j]'(by omega)) := by rw [HW.out.cellAt j (by omega)]; simp [hl, hlt]
      obtain ⟨x, hxe⟩ : ∃ x, ys[j]'(by omega) = x := ⟨_, rfl⟩
      rw [hxe] at hx
      have hfz := HW.out.frozenAt j
      have HS := Lib.hid (HW.out.stored j (.int .i64 (q : Int))).1
      have hb2 : Below base w (wr.setCell ⟨g, j, none⟩ (.int .i64 (q : Int))) := hbel.setCell hgb _
      clear hr hc hv HO hxe
      go_wp2
      clear hx hfz hl
      go_roundw
      case rel => exact ⟨j + 1, q + 1, ys.set j (.int .i64 (q : Int)), by omega, by have := HQ.out; omega, Lib.hid (by have := HQ.out; omega), by rw [HQ1.out]; exact hM1, by go_num, by go_num, HS, hb2⟩
      case measure => (simp [intOf]; try omega)
    · obtain rfl : j = n := by omega
      go_wp2
      go_ret
      exact ⟨ys, ret_i64' (by have := HQ.out; omega), HW.out, HM.out, hbel⟩

set_option maxRecDepth 100000 in
set_option maxHeartbeats 1000000 in
theorem heldInts_any (base : Nat) (v : Value) (n k : Nat) (ys : List Value) (w : World) (hk : k + n ≤ 100000000) (hown : w.ownsRow base 3 1 v n ys) (hm : MarkedI ys k n) :
    Calls Tryz.prog 90 #[v, .int .i64 k] w fun e w' => e = .returned (.int .i64 (k + n)) ∧ w' = w := by
  obtain ⟨ad, cap, rfl, hcap, hnc, hr⟩ := own_form hown
  have hl := own_length hown
  have HR := Lib.hid hr
  have HM := Lib.hid hm
  have HL := Lib.hid hl
  clear hown hr hm hl
  unfold maxLen at hcap
  go_enter Tryz.func90, Tryz.ntmps90
  go_wp2
  go_loopw [1, 5] (fun kv iv wr => ∃ (j q : Nat), j ≤ n ∧ q ≤ k + n ∧ Hid (q = k + j) ∧ iv = .int .i64 j ∧ kv = .int .i64 q ∧ wr = w) (fun _ iv _ => n - (intOf iv).toNat)
  case atStart => exact ⟨0, k, Nat.zero_le _, by omega, Lib.hid rfl, rfl, rfl, rfl⟩
  case round =>
    obtain ⟨j, q, hj, hq, HQ, rfl, rfl, rfl⟩ := hrel
    by_cases hlt : j < n
    · obtain ⟨g, rfl, hc⟩ := HR.out j (by have := HL.out; omega)
      have hc0 : wr.cell? ⟨g, j, none⟩ = some (.int .i64 (q : Int)) := by rw [hc, HM.out j hlt, HQ.out]
      clear hc
      go_wp2
      go_roundw
      case rel => exact ⟨j + 1, q + 1, by omega, by have := HQ.out; omega, Lib.hid (by have := HQ.out; omega), by go_num, by go_num, by first | rfl | trivial⟩
      case measure => (simp [intOf]; try omega)
    · obtain rfl : j = n := by omega
      go_wp2
      go_ret
      exact ⟨ret_i64' (by have := HQ.out; omega), rfl⟩
end Go.Proofs.YtkfkjcadmdcbnaaGreatDoor
namespace Go.Proofs.YtkfkjcadmdcbnaaGreatDoor
open Go.RowKit Go.Proofs.YtkfkjcadmdcbnaaGreatDoor.Parts Go.Proofs.YtkfkjcadmdcbnaaGreatDoor.Hexa

/-- What the copy returns. -/
def CopyPost (n : Nat) (zs : List Int) (w : World) (e : Ending) (w' : World) : Prop :=
  e = .returned (.slice (some ⟨w.heap.size, 0, none⟩) n n) ∧ w'.ownsRow w.heap.size 3 1 (.slice (some ⟨w.heap.size, 0, none⟩) n n) n (icells zs) ∧ Below w.heap.size w w'


end Go.Proofs.YtkfkjcadmdcbnaaGreatDoor
namespace Go.Proofs.YtkfkjcadmdcbnaaGreatDoor
open Go.RowKit Go.Proofs.YtkfkjcadmdcbnaaGreatDoor.Parts Go.Proofs.YtkfkjcadmdcbnaaGreatDoor.Hexa

/-- Marks written: the slice's own block alone is written to. -/
def MarkPostB (base : Nat) (v : Value) (n k : Nat) (w : World) (e : Ending) (w' : World) : Prop :=
  ∃ ys, e = .returned (.int .i64 (k + n)) ∧ w'.ownsRow base 3 1 v n ys ∧ MarkedI ys k n ∧ Below base w w' ∧ ∀ g, v.ownBlock ≠ some g → w'.heap[g]? = w.heap[g]?

set_option maxRecDepth 100000 in
set_option maxHeartbeats 1000000 in
theorem markIntsB_any (base : Nat) (v : Value) (n k : Nat) (xs : List Value) (w : World) (hk : k + n ≤ 100000000) (hown : w.ownsRow base 3 1 v n xs) :
    Calls Tryz.prog 88 #[v, .int .i64 k] w (MarkPostB base v n k w) := by
  obtain ⟨ad, cap, rfl, hcap, hnc, hr⟩ := own_form hown
  have HO := Lib.hid hown
  clear hown hr
  unfold maxLen at hcap
  go_enter Tryz.func88, Tryz.ntmps88
  go_wp2
  go_loopw [1, 5] (fun kv iv wr => ∃ (j q : Nat) (ys : List Value), j ≤ n ∧ q ≤ k + n ∧ Hid (q = k + j) ∧ Hid (MarkedI ys k j) ∧ iv = .int .i64 j ∧ kv = .int .i64 q ∧ Hid (wr.ownsRow base 3 1 (.slice ad n cap) n ys) ∧ Below base w wr ∧ Hid (∀ g, (Value.slice ad n cap).ownBlock ≠ some g → wr.heap[g]? = w.heap[g]?)) (fun _ iv _ => n - (intOf iv).toNat)
  case atStart => exact ⟨0, k, xs, Nat.zero_le _, by omega, Lib.hid rfl, Lib.hid (fun t ht => by omega), rfl, rfl, HO, Below.refl _ _, Lib.hid (fun _ _ => rfl)⟩
  case round =>
    obtain ⟨j, q, ys, hj, hq, HQ, HM, rfl, rfl, HW, hbel, HK⟩ := hrel
    by_cases hlt : j < n
    · have hl : ys.length = n := own_length HW.out
      obtain ⟨ad', cap', hv, _, _, hr⟩ := own_form HW.out
      obtain ⟨g, hg, hc⟩ := hr j (by omega)
      have hv' : ad = ad' := by simp at hv; exact hv.1
      subst hv'
      subst hg
      have hgb : base ≤ g := own_block_ge HW.out g rfl
      have hM1 := Lib.hid (HM.out.step (by omega))
      have hx : wr.cell? ⟨g, j, none⟩ = some (ys[j]'(by omega)) := by rw [HW.out.cellAt j (by omega)]; simp [hl, hlt]
      obtain ⟨x, hxe⟩ : ∃ x, ys[j]'(by omega) = x := ⟨_, rfl⟩
      rw [hxe] at hx
      have hfz := HW.out.frozenAt j
      have HS := Lib.hid (HW.out.stored j (.int .i64 (q : Int))).1
      have hb2 : Below base w (wr.setCell ⟨g, j, none⟩ (.int .i64 (q : Int))) := hbel.setCell hgb _
      have HK2 : Hid (∀ g', (Value.slice (some ⟨g, 0, none⟩) n cap).ownBlock ≠ some g' → (wr.setCell ⟨g, j, none⟩ (.int .i64 (q : Int))).heap[g']? = w.heap[g']?) := Lib.hid (fun g' hg' => by
        have hne : g' ≠ g := fun e => hg' (by rw [e]; rfl)
        rw [Below.heap_setCell _ _ _ _ (by simpa using hne)]; exact HK.out g' hg')
      clear hr hc hv HO hxe
      go_wp2
      clear hx hfz hl
      go_roundw
      case rel => exact ⟨j + 1, q + 1, ys.set j (.int .i64 (q : Int)), by omega, by have := HQ.out; omega, Lib.hid (by have := HQ.out; omega), by rw [HQ.out]; exact hM1, by go_num, by go_num, HS, hb2, HK2⟩
      case measure => (simp [intOf]; try omega)
    · obtain rfl : j = n := by omega
      go_wp2
      go_ret
      exact ⟨ys, ret_i64' (by have := HQ.out; omega), HW.out, HM.out, hbel, HK.out⟩
end Go.Proofs.YtkfkjcadmdcbnaaGreatDoor
namespace Go.Proofs.YtkfkjcadmdcbnaaGreatDoor
open Go.RowKit Go.Proofs.YtkfkjcadmdcbnaaGreatDoor.Parts Go.Proofs.YtkfkjcadmdcbnaaGreatDoor.Hexa

/-- The slice v has the ints L, in a row of the call's own, or none. -/
def OwnC (w : World) (B : Nat) (v : Value) (n : Nat) (xs : List Value) : Prop :=
  ∃ a c q, v = .slice a n c ∧ xs.length = n ∧ n ≤ c ∧ c ≤ maxLen ∧ (n = 0 ∨ w.ownsRow B 3 1 (.slice a n q) n xs)
section
variable {w w' : World} {B n : Nat} {v : Value} {xs : List Value}
theorem ownC_of_own (h : w.ownsRow B 3 1 v n xs) : OwnC w B v n xs := by
  have hl := own_length h
  obtain ⟨a, c, rfl, h1, h2, _⟩ := own_form h
  exact ⟨a, c, c, rfl, hl, h2, h1, .inr h⟩
theorem ownC_nil (a : Option Addr) {c : Nat} (hc : c ≤ maxLen) : OwnC w B (.slice a 0 c) 0 [] := ⟨a, c, 0, rfl, rfl, Nat.zero_le _, hc, .inl rfl⟩
theorem OwnC.below (h : OwnC w B v n xs) (hb : Below w.heap.size w w') : OwnC w' B v n xs := by
  obtain ⟨a, c, q, rfl, hl, h1, h2, h⟩ := h
  exact ⟨a, c, q, rfl, hl, h1, h2, h.imp id fun h => own_below h hb⟩
theorem OwnC.kept (h : OwnC w B v n xs) (hk : ∀ g, B ≤ g → g < w.heap.size → w'.heap[g]? = w.heap[g]?) : OwnC w' B v n xs := by
  obtain ⟨a, c, q, rfl, hl, h1, h2, h⟩ := h
  exact ⟨a, c, q, rfl, hl, h1, h2, h.imp id fun h => own_kept h fun g hg => hk g (own_block_ge h g hg) (own_block_lt h g hg)⟩
theorem OwnC.draws (h : OwnC w B v n xs) (m : Nat) : OwnC (w.drewN m) B v n xs := h
theorem OwnC.reads {a : Option Addr} {n' c : Nat} (h : OwnC w B (.slice a n' c) n xs) : Reads w a xs := by
  obtain ⟨a', c', q, e, hl, h1, h2, h⟩ := h
  cases e
  rcases h with rfl | h
  · intro j hj; omega
  · exact own_reads h
end

/-- The slice v has the cells, in a row from block B on and below T, or none. -/
def OwnT (e : TypeId) (w : World) (B T : Nat) (v : Value) (n : Nat) (xs : List Value) : Prop :=
  ∃ a c q, v = .slice a n c ∧ xs.length = n ∧ n ≤ c ∧ c ≤ maxLen ∧ (n = 0 ∨ (w.ownsRow B e 1 (.slice a n q) n xs ∧ ∀ g, (Value.slice a n q).ownBlock = some g → g < T))
section
variable {w w' : World} {e : TypeId} {B T n : Nat} {v : Value} {xs : List Value}
theorem ownT_of_own (h : w.ownsRow B e 1 v n xs) : OwnT e w B w.heap.size v n xs := by
  have hl := own_length h
  have hb := own_block_lt h
  obtain ⟨a, c, rfl, h1, h2, _⟩ := own_form h
  exact ⟨a, c, c, rfl, hl, h2, h1, .inr ⟨h, hb⟩⟩
theorem ownT_of_C (h : OwnC w B v n xs) : OwnT 3 w B w.heap.size v n xs := by
  obtain ⟨a, c, q, rfl, hl, h1, h2, h⟩ := h
  exact ⟨a, c, q, rfl, hl, h1, h2, h.imp id fun h => ⟨h, own_block_lt h⟩⟩
theorem OwnT.toC (h : OwnT 3 w B T v n xs) : OwnC w B v n xs := by
  obtain ⟨a, c, q, rfl, hl, h1, h2, h⟩ := h
  exact ⟨a, c, q, rfl, hl, h1, h2, h.imp id fun h => h.1⟩
theorem OwnT.below (h : OwnT e w B T v n xs) (hb : Below w.heap.size w w') : OwnT e w' B T v n xs := by
  obtain ⟨a, c, q, rfl, hl, h1, h2, h⟩ := h
  exact ⟨a, c, q, rfl, hl, h1, h2, h.imp id fun h => ⟨own_below h.1 hb, h.2⟩⟩
theorem OwnT.kept (h : OwnT e w B T v n xs) (hk : ∀ g, B ≤ g → g < T → w'.heap[g]? = w.heap[g]?) : OwnT e w' B T v n xs := by
  obtain ⟨a, c, q, rfl, hl, h1, h2, h⟩ := h
  exact ⟨a, c, q, rfl, hl, h1, h2, h.imp id fun h => ⟨own_kept h.1 fun g hg => hk g (own_block_ge h.1 g hg) (h.2 g hg), h.2⟩⟩
theorem OwnT.draws (h : OwnT e w B T v n xs) (m : Nat) : OwnT e (w.drewN m) B T v n xs := h
theorem OwnT.reads (h : OwnT e w B T v n xs) : ∃ a c, v = .slice a n c ∧ Reads w a xs := by
  obtain ⟨a, c, q, rfl, hl, h1, h2, h⟩ := h
  refine ⟨a, c, rfl, ?_⟩
  rcases h with rfl | h
  · intro j hj; omega
  · exact own_reads h.1
end
theorem eqT (v1 v2 : Value) (B1 T1 B2 T2 n : Nat) (P : List Int) (w : World) (hP : P.length = n) (hn : n ≤ 100000000) (h1 : OwnT 3 w B1 T1 v1 n (icells P)) (h2 : OwnT 3 w B2 T2 v2 n (icells P)) :
    Calls Tryz.prog 84 #[v1, v2] w fun e w' => e = .returned (.bool true) ∧ ∃ m, w' = w.drewN m := by
  obtain ⟨a1, c1, rfl, r1⟩ := h1.reads
  obtain ⟨a2, c2, rfl, r2⟩ := h2.reads
  exact eqInts_any a1 a2 n c1 c2 P w hP hn r1 r2

theorem eqC (v1 v2 : Value) (B1 B2 n : Nat) (P : List Int) (w : World) (hP : P.length = n) (hn : n ≤ 100000000) (h1 : OwnC w B1 v1 n (icells P)) (h2 : OwnC w B2 v2 n (icells P)) :
    Calls Tryz.prog 84 #[v1, v2] w fun e w' => e = .returned (.bool true) ∧ ∃ m, w' = w.drewN m := by
  have r1 := h1
  have r2 := h2
  obtain ⟨a1, c1, q1, rfl, _⟩ := h1
  obtain ⟨a2, c2, q2, rfl, _⟩ := h2
  exact eqInts_any a1 a2 n c1 c2 P w hP hn r1.reads r2.reads

/-- Marks written: only own blocks are written to. -/
def MarkPostC (base : Nat) (v : Value) (n k : Nat) (w : World) (e : Ending) (w' : World) : Prop :=
  ∃ ys, e = .returned (.int .i64 (k + n)) ∧ OwnC w' base v n ys ∧ MarkedI ys k n ∧ Below base w w'

set_option maxRecDepth 100000 in
set_option maxHeartbeats 1000000 in
theorem markNone_any (a : Option Addr) (c k : Nat) (w : World) :
    Calls Tryz.prog 88 #[.slice a 0 c, .int .i64 k] w fun e w' => e = .returned (.int .i64 k) ∧ w' = w := by
  go_enter Tryz.func88, Tryz.ntmps88
  go_wp2
  go_loopw [1, 5] (fun kv iv wr => kv = .int .i64 k ∧ iv = .int .i64 0 ∧ wr = w) (fun _ _ _ => 0)
  case atStart => exact ⟨rfl, rfl, rfl⟩
  case round =>
    obtain ⟨rfl, rfl, rfl⟩ := hrel
    go_wp2
    go_ret
    exact ⟨rfl, rfl⟩
set_option maxRecDepth 100000 in
set_option maxHeartbeats 1000000 in
theorem heldNone_any (a : Option Addr) (c k : Nat) (w : World) :
    Calls Tryz.prog 90 #[.slice a 0 c, .int .i64 k] w fun e w' => e = .returned (.int .i64 k) ∧ w' = w := by
  go_enter Tryz.func90, Tryz.ntmps90
  go_wp2
  go_loopw [1, 5] (fun kv iv wr => kv = .int .i64 k ∧ iv = .int .i64 0 ∧ wr = w) (fun _ _ _ => 0)
  case atStart => exact ⟨rfl, rfl, rfl⟩
  case round =>
    obtain ⟨rfl, rfl, rfl⟩ := hrel
    go_wp2
    go_ret
    exact ⟨rfl, rfl⟩

set_option maxRecDepth 100000 in
set_option maxHeartbeats 1000000 in
theorem markIntsC_any (base : Nat) (v : Value) (n k : Nat) (xs : List Value) (w : World) (hk : k + n ≤ 100000000) (hown : OwnC w base v n xs) :
    Calls Tryz.prog 88 #[v, .int .i64 k] w (MarkPostC base v n k w) := by
  obtain ⟨ad, c, cap, rfl, hl0, hnc, hcm, h⟩ := hown
  rcases h with rfl | hown
  · refine (markNone_any ad c k w).mono ?_
    rintro e w' ⟨rfl, rfl⟩
    exact ⟨[], ret_i64' (by omega), ⟨ad, c, cap, rfl, rfl, hnc, hcm, .inl rfl⟩, fun t ht => by omega, Below.refl _ _⟩
  have hcap : cap ≤ maxLen := by obtain ⟨_, _, e, h9, _, _⟩ := own_form hown; cases e; exact h9
  have HO := Lib.hid hown
  clear hown hl0
  have hc63 : c ≤ 9223372036854775807 := Nat.le_trans hcm (by decide)
  have HCM := Lib.hid hcm
  unfold maxLen at hcap hcm
  go_enter Tryz.func88, Tryz.ntmps88
  go_wp2
  go_loopw [1, 5] (fun kv iv wr => ∃ (j q : Nat) (ys : List Value), j ≤ n ∧ q ≤ k + n ∧ Hid (q = k + j) ∧ Hid (MarkedI ys k j) ∧ iv = .int .i64 j ∧ kv = .int .i64 q ∧ Hid (wr.ownsRow base 3 1 (.slice ad n cap) n ys) ∧ Below base w wr) (fun _ iv _ => n - (intOf iv).toNat)
  case atStart => exact ⟨0, k, xs, Nat.zero_le _, by omega, Lib.hid rfl, Lib.hid (fun t ht => by omega), rfl, rfl, HO, Below.refl _ _⟩
  case round =>
    obtain ⟨j, q, ys, hj, hq, HQ, HM, rfl, rfl, HW, hbel⟩ := hrel
    by_cases hlt : j < n
    · have hl : ys.length = n := own_length HW.out
      obtain ⟨ad', cap', hv, _, _, hr⟩ := own_form HW.out
      obtain ⟨g, hg, hc⟩ := hr j (by omega)
      have hv' : ad = ad' := by simp at hv; exact hv.1
      subst hv'
      subst hg
      have hgb : base ≤ g := own_block_ge HW.out g rfl
      have hM1 := Lib.hid (HM.out.step (by omega))
      have HQ1 : Hid ((q : Nat) = k + j) := HQ
      have hx : wr.cell? ⟨g, j, none⟩ = some (ys[j]'(by omega)) := by rw [HW.out.cellAt j (by omega)]; simp [hl, hlt]
      obtain ⟨x, hxe⟩ : ∃ x, ys[j]'(by omega) = x := ⟨_, rfl⟩
      rw [hxe] at hx
      have hfz := HW.out.frozenAt j
      have HS := Lib.hid (HW.out.stored j (.int .i64 (q : Int))).1
      have hb2 : Below base w (wr.setCell ⟨g, j, none⟩ (.int .i64 (q : Int))) := hbel.setCell hgb _
      clear hr hc hv HO hxe
      go_wp2
      clear hx hfz hl
      go_roundw
      case rel => exact ⟨j + 1, q + 1, ys.set j (.int .i64 (q : Int)), by omega, by have := HQ.out; omega, Lib.hid (by have := HQ.out; omega), by rw [HQ1.out]; exact hM1, by go_num, by go_num, HS, hb2⟩
      case measure => (simp [intOf]; try omega)
    · obtain rfl : j = n := by omega
      go_wp2
      go_ret
      exact ⟨ys, ret_i64' (by have := HQ.out; omega), ⟨ad, c, cap, rfl, own_length HW.out, hnc, HCM.out, .inr HW.out⟩, HM.out, hbel⟩

set_option maxRecDepth 100000 in
set_option maxHeartbeats 1000000 in
theorem heldIntsC_any (base : Nat) (v : Value) (n k : Nat) (ys : List Value) (w : World) (hk : k + n ≤ 100000000) (hown : OwnC w base v n ys) (hm : MarkedI ys k n) :
    Calls Tryz.prog 90 #[v, .int .i64 k] w fun e w' => e = .returned (.int .i64 (k + n)) ∧ w' = w := by
  obtain ⟨ad, c, cap, rfl, hl0, hnc, hcm, h⟩ := hown
  rcases h with rfl | hown
  · refine (heldNone_any ad c k w).mono ?_
    rintro e w' ⟨rfl, rfl⟩
    exact ⟨ret_i64' (by omega), rfl⟩
  have hl := own_length hown
  obtain ⟨_, _, e9, _, _, hr⟩ := own_form hown
  cases e9
  have HR := Lib.hid hr
  have HM := Lib.hid hm
  have HL := Lib.hid hl
  have hc63 : c ≤ 9223372036854775807 := Nat.le_trans hcm (by decide)
  clear hown hr hm hl hl0
  unfold maxLen at hcm
  go_enter Tryz.func90, Tryz.ntmps90
  go_wp2
  go_loopw [1, 5] (fun kv iv wr => ∃ (j q : Nat), j ≤ n ∧ q ≤ k + n ∧ Hid (q = k + j) ∧ iv = .int .i64 j ∧ kv = .int .i64 q ∧ wr = w) (fun _ iv _ => n - (intOf iv).toNat)
  case atStart => exact ⟨0, k, Nat.zero_le _, by omega, Lib.hid rfl, rfl, rfl, rfl⟩
  case round =>
    obtain ⟨j, q, hj, hq, HQ, rfl, rfl, rfl⟩ := hrel
    by_cases hlt : j < n
    · obtain ⟨g, rfl, hc⟩ := HR.out j (by have := HL.out; omega)
      have hc0 : wr.cell? ⟨g, j, none⟩ = some (.int .i64 (q : Int)) := by rw [hc, HM.out j hlt, HQ.out]
      clear hc
      go_wp2
      go_roundw
      case rel => exact ⟨j + 1, q + 1, by omega, by have := HQ.out; omega, Lib.hid (by have := HQ.out; omega), by go_num, by go_num, by first | rfl | trivial⟩
      case measure => (simp [intOf]; try omega)
    · obtain rfl : j = n := by omega
      go_wp2
      go_ret
      exact ⟨ret_i64' (by have := HQ.out; omega), rfl⟩

/-- Some ints of the call's own. -/
def GivesC (P : List Int) (w : World) (e : Ending) (w' : World) : Prop :=
  ∃ v, e = .returned v ∧ OwnC w' w.heap.size v P.length (icells P) ∧ Below w.heap.size w w'
/-- Some ints of the call's own, and whether there are any. -/
def GivesCB (P : List Int) (b : Bool) (w : World) (e : Ending) (w' : World) : Prop :=
  ∃ v, e = .returned (.tuple #[v, .bool b]) ∧ OwnC w' w.heap.size v P.length (icells P) ∧ Below w.heap.size w w'
end Go.Proofs.YtkfkjcadmdcbnaaGreatDoor
namespace Go.Proofs.YtkfkjcadmdcbnaaGreatDoor
open Go.RowKit Go.Proofs.YtkfkjcadmdcbnaaGreatDoor.Parts Go.Proofs.YtkfkjcadmdcbnaaGreatDoor.Hexa

set_option maxRecDepth 100000 in
set_option maxHeartbeats 1000000 in
theorem implEqual_any (a1 a2 : Option Addr) (n m c1 c2 : Nat) (P Q : List ByteArray) (w : World) (hn : n ≤ 100000000) (r1 : SrcT w a1 n P) (r2 : SrcT w a2 m Q) (b : Bool) (hb : b = true ↔ P = Q) :
    Calls Tryz.prog 101 #[.slice a1 n c1, .slice a2 m c2] w fun e w' => e = .returned (.bool b) ∧ ∃ q, w' = w.drewN q := by
  have hP := r1.len
  have hQ := r2.len
  by_cases hnm : n = m
  · subst hnm
    have HG := Lib.hid hb
    have HP := Lib.hid hP
    have HQ := Lib.hid hQ
    have R1 := Lib.hid r1
    have R2 := Lib.hid r2
    clear r1 r2 hb hP hQ
    go_enter Tryz.func101, Tryz.ntmps101
    go_wp2
    go_loopw [13] (fun iv wr => ∃ k q : Nat, k ≤ n ∧ iv = .int .i64 k ∧ wr = w.drewN q ∧ Hid (∀ j, j < k → P.getD j default = Q.getD j default)) (fun iv _ => n - (intOf iv).toNat)
    case atStart => exact ⟨0, 0, Nat.zero_le _, rfl, rfl, Lib.hid (fun j hj => by omega)⟩
    case round =>
      obtain ⟨k, q, hk, rfl, rfl, HA⟩ := hrel
      by_cases hlt : k < n
      · obtain ⟨g1, o1, e1, _, d1⟩ := srcT_at R1.out k hlt
        obtain ⟨g2, o2, e2, _, d2⟩ := srcT_at R2.out k hlt
        obtain ⟨x, hx⟩ : ∃ x, P.getD k default = x := ⟨_, rfl⟩
        obtain ⟨y, hy⟩ : ∃ y, Q.getD k default = y := ⟨_, rfl⟩
        rw [hx] at d1
        rw [hy] at d2
        have HX := Lib.hid hx
        have HY := Lib.hid hy
        subst e1 e2
        clear hx hy
        by_cases hxy : x = y
        · subst hxy
          have HA2 : Hid (∀ j, j < k + 1 → P.getD j default = Q.getD j default) := Lib.hid (fun j hj => by
            by_cases e : j = k
            · subst e; rw [HX.out, HY.out]
            · exact HA.out j (by omega))
          go_wp2
          go_quiet (fail)
          go_wp2
          go_roundw
          case rel => exact ⟨k + 1, _, by omega, by go_num, rfl, HA2⟩
          case measure => (simp [intOf]; try omega)
        · have i1 := text_neB hxy
          have i2 : (x.toList != y.toList) = true := by simp only [bne, i1]; rfl
          have i3 := text_ne hxy
          have HE : Hid (b = false) := Lib.hid (by
            cases b
            · rfl
            · exact absurd (by rw [← HX.out, ← HY.out, HG.out.1 rfl]) hxy)
          clear hxy
          go_wp2
          go_quiet (fail)
          go_wp2
          go_ret
          exact ⟨by rw [HE.out]; rfl, _, by rw [World.drewN_drewN]⟩
      · obtain rfl : k = n := by omega
        have HE : Hid (b = true) := Lib.hid (HG.out.2 (texts_eq HP.out HQ.out HA.out))
        go_wp2
        go_ret
        exact ⟨by rw [HE.out]; rfl, _, rfl⟩
  · have e1 : ((n : Int) == (m : Int)) = false := by simp; omega
    have e2 : ((n : Int) != (m : Int)) = true := by simp only [bne, e1]; rfl
    have HE : Hid (b = false) := Lib.hid (by
      cases b
      · rfl
      · exact absurd (by rw [← hP, ← hQ, hb.1 rfl]) hnm)
    clear r1 r2 hP hQ hb
    go_enter Tryz.func101, Tryz.ntmps101
    go_wp2
    go_ret
    exact ⟨by rw [HE.out]; rfl, 0, rfl⟩
end Go.Proofs.YtkfkjcadmdcbnaaGreatDoor
namespace Go.Proofs.YtkfkjcadmdcbnaaGreatDoor
open Go.RowKit Go.Lib Go.Proofs.YtkfkjcadmdcbnaaGreatDoor.Parts Go.Proofs.YtkfkjcadmdcbnaaGreatDoor.Hexa Go.Proofs.YtkfkjcadmdcbnaaGreatDoor.Byt

/-- The bytes behind the first k words. -/
def TT (P : List ByteArray) : Nat → List UInt8
  | 0 => partB [] 16
  | k + 1 => ovT (TT P k) (8 * k) (16 - 8 * k) (P.getD k default)
theorem TT_len (P : List ByteArray) : ∀ k, k ≤ 2 → (TT P k).length = 16
  | 0, _ => partB_length [] 16 (by decide)
  | k + 1, h => by
    have ih := TT_len P k (by omega)
    show (ovT _ _ _ _).length = 16
    rw [ovT_len _ _ _ _ (by omega), ih]
theorem TT_two {P : List ByteArray} (h0 : (P.getD 0 default).size = 8) (h1 : (P.getD 1 default).size = 8) : TT P 2 = (P.getD 0 default ++ P.getD 1 default).data.toList := by
  have e : ∀ s : ByteArray, s.size = 8 → (s.extract 0 8).data.toList = s.data.toList := fun s hs => by
    have : s.extract 0 8 = s := by
      apply ByteArray.ext
      simp [ByteArray.data_extract]
      have : s.data.size = 8 := hs
      omega
    rw [this]
  have hl0 : (P.getD 0 default).data.toList.length = 8 := by rw [Array.length_toList]; exact h0
  show ovT (ovT (partB [] 16) (8 * 0) (16 - 8 * 0) (P.getD 0 default)) (8 * 1) (16 - 8 * 1) (P.getD 1 default) = _
  generalize P.getD 0 default = A at *
  generalize P.getD 1 default = B at *
  unfold ovT
  rw [h0, h1]
  rw [show min 8 (16 - 8 * 0) = 8 from rfl, show min 8 (16 - 8 * 1) = 8 from rfl, show 8 * 0 = 0 from rfl, show 8 * 1 = 8 from rfl, show 0 + 8 = 8 from rfl, show 8 + 8 = 16 from rfl, e A h0, e B h1, partB_nil]
  simp only [List.take_zero, List.nil_append, List.drop_replicate]
  rw [List.take_left' hl0, List.drop_eq_nil_of_le (by simp [hl0]), List.append_nil]
  simp

theorem cutSt_size {l : List UInt8} {o : Nat} (h : o + 8 ≤ l.length) : (cutSt l o).size = 8 := by
  show ((l.drop o).take 8).toArray.size = 8
  simp; omega
theorem stWords_sizes {zs : List Int} {P : List ByteArray} (h : stWords zs = P) (hP : P.length = 2) : (P.getD 0 default).size = 8 ∧ (P.getD 1 default).size = 8 := by
  by_cases hok : StOk zs zs.length
  · rw [stWords_yes hok] at h
    have hl : (partB (stT zs) 16).length = 16 := partB_length _ _ (by rw [stT_len]; have := hok.2.2.2; omega)
    subst h
    exact ⟨cutSt_size (by omega), cutSt_size (by omega)⟩
  · rw [stWords_no hok] at h
    subst h; cases hP
theorem rd_same {P : List ByteArray} {q : Nat} (h0 : (P.getD 0 default).size = 8) (h1 : (P.getD 1 default).size = 8) : listSt P (q : Int) = bytesI ⟨(TT P 2).toArray⟩ q := by
  unfold listSt bytesI
  rw [TT_two h0 h1]
  simp
theorem rd_eq {P : List ByteArray} {q : Nat} (hP : P.length = 2) (hq : 1 ≤ q ∧ q ≤ 12) (h : stWords (bytesI ⟨(TT P 2).toArray⟩ q) = P) : RdOk P (q : Int) ∧ listSt P (q : Int) = bytesI ⟨(TT P 2).toArray⟩ q := by
  obtain ⟨h0, h1⟩ := stWords_sizes h hP
  have e := rd_same (q := q) h0 h1
  exact ⟨⟨hP, h0, h1, by omega, by rw [e]; exact h⟩, e⟩
theorem rd_ne {P : List ByteArray} {q : Nat} (h : ¬ stWords (bytesI ⟨(TT P 2).toArray⟩ q) = P) : ¬ RdOk P (q : Int) := fun hr => h (by
  rw [← rd_same hr.2.1 hr.2.2.1]; exact hr.2.2.2.2)

/-- The first k bytes as ints, and zeros. -/
def partI (T : List UInt8) (q k : Nat) : List Int := bytesI ⟨T.toArray⟩ k ++ List.replicate (q - k) 0
theorem partI_len {T : List UInt8} {q k : Nat} (hk : k ≤ q) (hq : q ≤ T.length) : (partI T q k).length = q := by
  unfold partI
  rw [List.length_append, bytesI_len (by show k ≤ T.toArray.size; rw [List.size_toArray]; omega), List.length_replicate]; omega
theorem partI_next {T : List UInt8} {q k : Nat} (hk : k < q) (hq : q ≤ T.length) : (partI T q k).set k ((T[k]'(by omega)).toNat : Int) = partI T q (k + 1) := by
  have hs : k < (⟨T.toArray⟩ : ByteArray).size := by show k < T.toArray.size; rw [List.size_toArray]; omega
  have hl : (bytesI ⟨T.toArray⟩ k).length = k := bytesI_len (by omega)
  obtain ⟨m, hm⟩ : ∃ m, q - k = m + 1 := ⟨q - k - 1, by omega⟩
  unfold partI
  rw [bytesI_succ hs, hm, show q - (k + 1) = m by omega, List.replicate_succ, List.set_append_right _ _ (by omega), hl, Nat.sub_self, List.set_cons_zero, List.append_assoc]
  rfl

set_option maxRecDepth 100000 in
set_option maxHeartbeats 2000000 in
theorem implReadSt_any (a : Option Addr) (n c : Nat) (P : List ByteArray) (p : Int) (w : World) (hs : SrcT w a n P) (hm : ∀ j, j < n → (P.getD j default).size ≤ 2000000) :
    Calls Tryz.prog 79 #[.slice a n c, .int .i64 p] w (GivesCB (rdR P p) (rdB P p) w) := by
  by_cases h2 : n = 2
  · subst h2
    obtain ⟨i0, hi, hz0, hz1, hz2⟩ := info_parts infoInt
    obtain ⟨i8, hi8, hz80, hz81, hz82⟩ := info_parts infoByte
    have HS := Lib.hid hs
    obtain ⟨g, off, rfl, hg, d0⟩ := srcT_at hs 0 (by omega)
    obtain ⟨g', off', e', _, d1⟩ := srcT_at hs 1 (by omega)
    cases e'
    obtain ⟨A, hA⟩ : ∃ A, P.getD 0 default = A := ⟨_, rfl⟩
    obtain ⟨B, hB⟩ : ∃ B, P.getD 1 default = B := ⟨_, rfl⟩
    have m0 := hm 0 (by omega)
    have m1 := hm 1 (by omega)
    rw [hA, Nat.add_zero] at d0
    rw [hA] at m0
    rw [hB] at d1 m1
    have HA := Lib.hid hA
    have HB := Lib.hid hB
    clear hs hm hA hB
    by_cases hp : 1 ≤ p ∧ p ≤ 12
    · obtain ⟨q, rfl⟩ : ∃ q : Nat, p = q := ⟨p.toNat, by omega⟩
      have hq12 : q ≤ 12 := by omega
      have hq1 : 1 ≤ q := by omega
      go_enter Tryz.func79, Tryz.ntmps79
      go_wp2_with fail
      refine (implIn_yes _ hp).mono ?_
      rintro e w1 ⟨rfl, rfl⟩
      clear hp
      have HG0 : Hid (Below w1.heap.size w1 (w1.alloc (.cells #[.int .u8 0, .int .u8 0, .int .u8 0, .int .u8 0, .int .u8 0, .int .u8 0, .int .u8 0, .int .u8 0, .int .u8 0, .int .u8 0, .int .u8 0, .int .u8 0, .int .u8 0, .int .u8 0, .int .u8 0, .int .u8 0] 151))) := Lib.hid ((Below.refl _ _).alloc (Nat.le_refl _) _)
      have HO0 := Lib.hid (zero16 w1 (B := w1.heap.size) (Nat.le_refl _) 151)
      go_wp2
      go_loopw [21] (fun iv wr => ∃ k : Nat, k ≤ 2 ∧ iv = .int .i64 k ∧ Hid (Bytes wr w1.heap.size 151 (.slice (some ⟨w1.heap.size, 0, none⟩) 16 16) (TT P k)) ∧ Hid (Below w1.heap.size w1 wr)) (fun iv _ => 2 - (RowKit.intOf iv).toNat)
      case atStart => exact ⟨0, Nat.zero_le _, rfl, HO0, HG0⟩
      case round =>
        obtain ⟨k, hk, rfl, HO, HG⟩ := hrel
        clear HO0 HG0
        by_cases hlt : k < 2
        · obtain ⟨w', h'⟩ : ∃ w', w' = wr := ⟨_, rfl⟩
          obtain h | h : k = 0 ∨ k = 1 := by omega
          · subst h
            obtain ⟨r9, w9, hc9, ho9, hb9⟩ := bytes_copy_at (P := Tryz.prog) (t := 22) (u := 9) (ty := 3) Tryz.underlying22 hi8 hz81 (TT_len P 0 (by omega)) HO.out 0 16 16 (by omega) A
            have HO9 : Hid (Bytes w9 w1.heap.size 151 (.slice (some ⟨w1.heap.size, 0, none⟩) 16 16) (TT P 1)) := Lib.hid (by
              show Bytes _ _ _ _ (ovT (TT P 0) (8 * 0) (16 - 8 * 0) (P.getD 0 default)); rw [HA.out]; exact ho9)
            have HB9 : Hid (Below w1.heap.size w1 w9) := Lib.hid (HG.out.trans hb9)
            have d0' : wr.cell? ⟨g, off, none⟩ = some (.string A) := by rw [HG.out.cell hg]; exact d0
            clear ho9 hb9 HO HG h'
            rw [show ((0 : Nat) : Int) = 0 from rfl]
            go_wp2
            go_roundw
            case rel => exact ⟨1, by omega, by go_num, HO9, HB9⟩
            case measure => (simp [RowKit.intOf]; try omega)
          · subst h
            obtain ⟨r9, w9, hc9, ho9, hb9⟩ := bytes_copy_at (P := Tryz.prog) (t := 22) (u := 9) (ty := 3) Tryz.underlying22 hi8 hz81 (TT_len P 1 (by omega)) HO.out 8 8 8 (by omega) B
            have HO9 : Hid (Bytes w9 w1.heap.size 151 (.slice (some ⟨w1.heap.size, 0, none⟩) 16 16) (TT P 2)) := Lib.hid (by
              show Bytes _ _ _ _ (ovT (TT P 1) (8 * 1) (16 - 8 * 1) (P.getD 1 default)); rw [HB.out]; exact ho9)
            have HB9 : Hid (Below w1.heap.size w1 w9) := Lib.hid (HG.out.trans hb9)
            have d1' : wr.cell? ⟨g, off + 1, none⟩ = some (.string B) := by rw [HG.out.cell hg]; exact d1
            clear ho9 hb9 HO HG h'
            rw [show ((1 : Nat) : Int) = 1 from rfl]
            go_wp2
            go_roundw
            case rel => exact ⟨2, by omega, by go_num, HO9, HB9⟩
            case measure => (simp [RowKit.intOf]; try omega)
        · obtain rfl : k = 2 := by omega
          obtain ⟨W, hW⟩ : ∃ W, W = wr := ⟨_, rfl⟩
          rw [← hW] at HO HG ⊢
          clear hW
          obtain ⟨T, hT⟩ : ∃ T, TT P 2 = T := ⟨_, rfl⟩
          have hT16 : T.length = 16 := by rw [← hT]; exact TT_len P 2 (by omega)
          have HEQ := Lib.hid (fun h => rd_eq (P := P) (q := q) HS.out.len ⟨hq1, hq12⟩ h)
          have HNE := Lib.hid (fun h => rd_ne (P := P) (q := q) h)
          rw [hT] at HO HEQ HNE
          clear hT
          have hlt0 : w1.heap.size < W.heap.size := by
            rcases HO.out with ⟨h, _⟩ | ⟨_, _, _, _, hv, _, hg9, _⟩
            · cases h
            · have hv := (Value.slice.inj hv).1; cases hv; exact (Array.getElem?_eq_some_iff.1 hg9).1
          go_wp2_with (at_make; refine wpList_make_full _ rfl _ _ 49 rfl w1.heap.size 3 i0 (.int .i64 0) 1 Tryz.underlying49 hi hz0 hz1 .i64 .i64 _ _ q rfl rfl rfl rfl (by rw [hz2]; omega) (by unfold maxLen; omega) (by omega) ?_; intro w0 hown0 hgrow0)
          have HG1 : Hid (Below w1.heap.size w1 w0) := Lib.hid (HG.out.grown hgrow0 (by omega) (fun k h => by cases h))
          have HB0 : Hid (Below W.heap.size W w0) := Lib.hid ((Below.refl _ _).grown hgrow0 (Nat.le_refl _) (fun k h => by cases h))
          have HBY : Hid (Bytes w0 w1.heap.size 151 (.slice (some ⟨w1.heap.size, 0, none⟩) 16 16) T) := Lib.hid (by
            rcases HO.out with ⟨h, _⟩ | ⟨g9, cap9, cur9, fz9, hv, hb9, hg9, hr9⟩
            · cases h
            · refine .inr ⟨g9, cap9, cur9, fz9, hv, hb9, ?_, hr9⟩
              rw [HB0.out.block g9 (Array.getElem?_eq_some_iff.1 hg9).1]; exact hg9)
          have HOI : Hid (w0.ownsRow w1.heap.size 3 1 (.slice (some ⟨W.heap.size, 0, none⟩) q q) q (icells (partI T q 0))) := Lib.hid (by
            have e : (madeCells (Value.int .i64 0).cells (q * 1)).toList = icells (partI T q 0) := by
              apply List.ext_getElem?
              intro j
              have hcl : (Value.int .i64 0).cells = #[Value.int .i64 0] := rfl
              have hp0 : partI T q 0 = List.replicate q 0 := by unfold partI; rw [bytesI_zero]; rfl
              rw [hp0]
              by_cases hj : j < q
              · simp [madeCells, hj, hcl, Nat.mod_one, icells]
              · rw [List.getElem?_eq_none (by simp [madeCells]; omega), List.getElem?_eq_none (by simp [icells]; omega)]
            rw [← e]; exact hown0)
          clear hown0 hgrow0 HG HO
          go_wp2
          go_loopw [36] (fun iv wr => ∃ k : Nat, k ≤ q ∧ iv = .int .i64 k ∧ Hid (wr.ownsRow w1.heap.size 3 1 (.slice (some ⟨W.heap.size, 0, none⟩) q q) q (icells (partI T q k))) ∧ Hid (Bytes wr w1.heap.size 151 (.slice (some ⟨w1.heap.size, 0, none⟩) 16 16) T) ∧ Hid (Below w1.heap.size w1 wr)) (fun iv _ => q - (RowKit.intOf iv).toNat)
          case atStart => exact ⟨0, Nat.zero_le _, rfl, HOI, HBY, HG1⟩
          case round =>
            obtain ⟨k, hk, rfl, HO, HY, HG⟩ := hrel
            clear HOI HBY HG1 HB0
            by_cases hlt : k < q
            · have hk16 : k < T.length := by omega
              have hk16' : (k : Int) < 16 := by omega
              have hy := (bytes_at (c := 16) (l := T) (by rw [hT16]; exact HY.out) k hk16).1
              have hpl := partI_len (T := T) (q := q) (k := k) (by omega) (by omega)
              have HN := Lib.hid (partI_next (T := T) (q := q) (k := k) hlt (by omega))
              obtain ⟨u, hu⟩ := ownE_cell HO.out (j := k) (by omega)
              have hfr := HO.out.frozenAt k
              obtain ⟨x, hx⟩ : ∃ x, T[k]'hk16 = x := ⟨_, rfl⟩
              rw [hx] at hy HN
              have hwr : IntKind.i64.wrap (x.toNat : Int) = (x.toNat : Int) := IntWalk.i64_in _ (by have h9 : x.toNat < 256 := x.toNat_lt; omega)
              have HO2 : Hid ((wr.setCell ⟨W.heap.size, k, none⟩ (.int .i64 (x.toNat : Int))).ownsRow w1.heap.size 3 1 (.slice (some ⟨W.heap.size, 0, none⟩) q q) q (icells (partI T q (k + 1)))) := Lib.hid (by
                have h9 := (HO.out.stored k (.int .i64 (x.toNat : Int))).1
                rw [← HN.out, show icells ((partI T q k).set k (x.toNat : Int)) = (icells (partI T q k)).set k (.int .i64 (x.toNat : Int)) by simp [icells]]
                exact h9)
              have HG2 : Hid (Below w1.heap.size w1 (wr.setCell ⟨W.heap.size, k, none⟩ (.int .i64 (x.toNat : Int)))) := Lib.hid (HG.out.setCell (by show w1.heap.size ≤ W.heap.size; omega) _)
              have HY2 : Hid (Bytes (wr.setCell ⟨W.heap.size, k, none⟩ (.int .i64 (x.toNat : Int))) w1.heap.size 151 (.slice (some ⟨w1.heap.size, 0, none⟩) 16 16) T) := Lib.hid (by
                rcases HY.out with ⟨h, _⟩ | ⟨g9, cap9, cur9, fz9, hv, hb9, hg9, hr9⟩
                · cases h
                · refine .inr ⟨g9, cap9, cur9, fz9, hv, hb9, ?_, hr9⟩
                  have hv := (Value.slice.inj hv).1
                  cases hv
                  rw [Below.heap_setCell _ _ _ _ (by show w1.heap.size ≠ W.heap.size; omega)]; exact hg9)
              have hx256 : x.toNat < 256 := x.toNat_lt
              clear hx hpl HN HO HY HG
              go_wp2
              go_roundw
              case rel => exact ⟨k + 1, by omega, by go_num, HO2, HY2, HG2⟩
              case measure => (simp [RowKit.intOf]; try omega)
            · obtain rfl : q = k := by omega
              have HPI : Hid (partI T q q = bytesI ⟨T.toArray⟩ q) := Lib.hid (by unfold partI; rw [Nat.sub_self]; simp)
              rw [HPI.out] at HO
              have X3 : Hid (SrcI wr (some ⟨W.heap.size, 0, none⟩) q (bytesI ⟨T.toArray⟩ q)) := Lib.hid (srcI_of_own HO.out)
              have HBL : Hid ((bytesI ⟨T.toArray⟩ q).length = q) := Lib.hid (bytesI_len (by show q ≤ T.toArray.size; rw [List.size_toArray]; omega))
              obtain ⟨L, hL⟩ : ∃ L, bytesI ⟨T.toArray⟩ q = L := ⟨_, rfl⟩
              rw [hL] at X3 HEQ HNE HBL HO
              clear hL HPI HY
              go_wp2_with fail
              refine (implStWords_any _ q q L _ X3.out (by omega)).mono ?_
              rintro e w4 ⟨v4, rfl, ho4, hb4⟩
              have HG4 := Lib.hid (HG.out.trans (hb4.mono HG.out.size))
              have HO4 := Lib.hid (own_kept (w' := w4) HO.out (fun g hg => hb4.block g (own_block_lt HO.out g hg)))
              obtain ⟨a4, c4, rfl, _, _, _⟩ := ownE_form ho4
              have Y4 := Lib.hid (srcT_of_own ho4)
              have Z4 := Lib.hid (SrcE.later HS.out HG4.out)
              have hl4 : (stWords L).length ≤ 2 := by unfold stWords; split <;> simp
              clear ho4 hb4
              obtain ⟨m4, hm4⟩ : ∃ m, (stWords L).length = m := ⟨_, rfl⟩
              rw [hm4] at Y4 hl4 ⊢
              clear hm4
              by_cases hok : stWords L = P
              · obtain ⟨hr1, hr2⟩ := HEQ.out hok
                have HF : Hid (rdR P (q : Int) = L ∧ rdB P (q : Int) = true) := Lib.hid ⟨by rw [rdR_yes hr1, hr2], rdB_yes hr1⟩
                clear hr1 hr2
                go_wp2_with fail
                refine (implEqual_any a4 (some ⟨g, off, none⟩) m4 2 c4 c _ P _ (by omega) Y4.out Z4.out true ⟨fun _ => hok, fun _ => rfl⟩).mono ?_
                rintro e w5 ⟨rfl, q5, rfl⟩
                have HG5 := Lib.hid (below_drewsN HG4.out q5)
                clear hok
                go_wp2
                rw [HF.out.1, HF.out.2]
                refine bodyPost_ret (v := .tuple #[.slice (some ⟨W.heap.size, 0, none⟩) q q, .bool true]) ?_ rfl ⟨_, rfl, ownC_of_own (by rw [HBL.out]; exact HO4.out), HG5.out⟩
                simp [results, Tryz.results79, go_sem]
              · have HRN := Lib.hid (HNE.out hok)
                have HF : Hid (rdR P (q : Int) = [] ∧ rdB P (q : Int) = false) := Lib.hid ⟨rdR_no HRN.out, rdB_no HRN.out⟩
                go_wp2_with fail
                refine (implEqual_any a4 (some ⟨g, off, none⟩) m4 2 c4 c _ P _ (by omega) Y4.out Z4.out false ⟨fun h => (by cases h), fun h => absurd h hok⟩).mono ?_
                rintro e w5 ⟨rfl, q5, rfl⟩
                have HG5 := Lib.hid (below_drewsN HG4.out q5)
                clear hok
                go_wp2
                rw [HF.out.1, HF.out.2]
                refine bodyPost_ret (v := .tuple #[.slice none 0 0, .bool false]) ?_ rfl ⟨_, rfl, ownC_nil none (Nat.zero_le _), HG5.out⟩
                simp [results, Tryz.results79, go_sem]
    · have HF : Hid (rdR P p = [] ∧ rdB P p = false) := Lib.hid ⟨rdR_no (fun h => hp h.2.2.2.1), rdB_no (fun h => hp h.2.2.2.1)⟩
      go_enter Tryz.func79, Tryz.ntmps79
      go_wp2_with fail
      refine (implIn_no _ hp).mono ?_
      rintro e w1 ⟨rfl, rfl⟩
      clear hp
      go_wp2
      rw [HF.out.1, HF.out.2]
      refine bodyPost_ret (v := .tuple #[.slice none 0 0, .bool false]) ?_ rfl ⟨_, rfl, ownC_nil none (Nat.zero_le _), Below.refl _ _⟩
      simp [results, Tryz.results79, go_sem]
  · have hnr : ¬ RdOk P p := fun x => h2 (by rw [← hs.len]; exact x.1)
    have HF : Hid (rdR P p = [] ∧ rdB P p = false) := Lib.hid ⟨rdR_no hnr, rdB_no hnr⟩
    have e8 : ((n : Int) == 2) = false := by simp; omega
    have e9 : ((n : Int) != 2) = true := by simp only [bne, e8]; rfl
    clear hs h2 hm hnr
    go_enter Tryz.func79, Tryz.ntmps79
    go_wp2
    rw [HF.out.1, HF.out.2]
    refine bodyPost_ret (v := .tuple #[.slice none 0 0, .bool false]) ?_ rfl ⟨_, rfl, ownC_nil none (Nat.zero_le _), Below.refl _ _⟩
    simp [results, Tryz.results79, go_sem]
end Go.Proofs.YtkfkjcadmdcbnaaGreatDoor
namespace Go.Proofs.YtkfkjcadmdcbnaaGreatDoor
open Go.RowKit Go.Proofs.YtkfkjcadmdcbnaaGreatDoor.Parts Go.Proofs.YtkfkjcadmdcbnaaGreatDoor.Hexa
theorem below_draws' {B : Nat} {a w : World} (h : Below B a w) (m : Nat) : Below B a (w.drewN m) := ⟨h.os, h.tape, h.output, h.size, h.block⟩
theorem own_draws' {w : World} {base e : Nat} {v : Value} {n : Nat} {xs : List Value} (h : w.ownsRow base e 1 v n xs) (m : Nat) : (w.drewN m).ownsRow base e 1 v n xs := h
theorem drewN_size (w : World) (m : Nat) : (w.drewN m).heap.size = w.heap.size := rfl
theorem firstR_len (zs : List Int) (q : Int) : (firstR zs q).length ≤ zs.length := by
  unfold firstR
  split
  · have := withSt_len zs 0 zs.length; rw [List.length_take]; omega
  · exact Nat.zero_le _
theorem stWords_len (zs : List Int) : (stWords zs).length ≤ 2 := by unfold stWords; split <;> simp
theorem rdR_len (P : List ByteArray) (p : Int) : (rdR P p).length ≤ 12 := by
  by_cases h : RdOk P p
  · rw [rdR_yes h]
    unfold listSt bytesI
    rw [List.length_map, List.length_take]
    have := h.2.2.2.1
    omega
  · rw [rdR_no h]; exact Nat.zero_le _
end Go.Proofs.YtkfkjcadmdcbnaaGreatDoor
namespace Go.Proofs.YtkfkjcadmdcbnaaGreatDoor
open Go.RowKit Go.Proofs.YtkfkjcadmdcbnaaGreatDoor.Parts Go.Proofs.YtkfkjcadmdcbnaaGreatDoor.Hexa Go.Proofs.YtkfkjcadmdcbnaaGreatDoor.Byt

theorem cut_both {l : List UInt8} (h : l.length = 16) : (cutSt l 0 ++ cutSt l 8).data.toList = l := by
  rw [ByteArray.data_append, Array.toList_append]
  show ((l.drop 0).take 8).toArray.toList ++ ((l.drop 8).take 8).toArray.toList = l
  simp only [List.drop_zero]
  rw [List.take_of_length_le (l := l.drop 8) (by rw [List.length_drop]; omega)]
  exact List.take_append_drop 8 l
theorem ints_back {zs : List Int} (h : StR zs zs.length) : (stT zs).map (fun b => (b.toNat : Int)) = zs := by
  apply List.ext_getElem
  · simp [stT]
  · intro j h1 h2
    have h3 := h j h2
    rw [show zs.getD j 0 = zs[j] by simp [List.getD, h2]] at h3
    simp only [stT, List.getElem_map]
    have := st_byte h3
    rw [← this, IntKind.wrap_u8]
    omega
theorem list_back {zs : List Int} (h : StOk zs zs.length) : RdOk (stWords zs) (zs.length : Int) ∧ listSt (stWords zs) (zs.length : Int) = zs := by
  have h12 : zs.length ≤ 12 := by have := h.2.2.2; omega
  have hl : (partB (stT zs) 16).length = 16 := partB_length _ _ (by rw [stT_len]; omega)
  have e : listSt (stWords zs) (zs.length : Int) = zs := by
    unfold listSt bytesI
    rw [stWords_yes h]
    show ((cutSt (partB (stT zs) 16) 0 ++ cutSt (partB (stT zs) 16) 8).data.toList.take (zs.length : Int).toNat).map (fun b => (b.toNat : Int)) = zs
    rw [cut_both hl, Int.toNat_natCast]
    unfold partB
    rw [List.take_append_of_le_length (by rw [stT_len]; exact Nat.le_refl _), List.take_of_length_le (by rw [stT_len]; exact Nat.le_refl _)]
    exact ints_back h.1
  refine ⟨⟨by rw [stWords_yes h]; rfl, ?_, ?_, h.2.2, by rw [e]⟩, e⟩
  · rw [stWords_yes h]; exact cutSt_size (by omega)
  · rw [stWords_yes h]; exact cutSt_size (by omega)
theorem three_sum {zs : List Int} {n : Nat} (h : StR zs n) : (withSt zs 0 n).length + (withSt zs 1 n).length + (withSt zs 2 n).length = n := by
  induction n with
  | zero => rfl
  | succ n ih =>
    have ih := ih (fun j hj => h j (by omega))
    have hz := h n (by omega)
    obtain h0 | h0 | h0 : zs.getD n 0 = 0 ∨ zs.getD n 0 = 1 ∨ zs.getD n 0 = 2 := by omega
    · rw [withSt_yes h0, withSt_no (s := 1) (by omega), withSt_no (s := 2) (by omega), List.length_append, List.length_singleton]; omega
    · rw [withSt_yes h0, withSt_no (s := 0) (by omega), withSt_no (s := 2) (by omega), List.length_append, List.length_singleton]; omega
    · rw [withSt_yes h0, withSt_no (s := 0) (by omega), withSt_no (s := 1) (by omega), List.length_append, List.length_singleton]; omega
theorem srcI_of_T {w : World} {B T n n' c : Nat} {a : Option Addr} {L : List Int} (h : OwnT 3 w B T (.slice a n' c) n (icells L)) : SrcI w a n L ∧ n ≤ c ∧ c ≤ 9223372036854775807 := by
  obtain ⟨a', c', q, e, hl, h1, h2, h⟩ := h
  cases e
  rw [icells_length] at hl
  refine ⟨?_, h1, Nat.le_trans h2 (by decide)⟩
  rcases h with rfl | h
  · exact ⟨hl, fun j hj => by omega⟩
  · exact srcI_of_own h.1
end Go.Proofs.YtkfkjcadmdcbnaaGreatDoor
namespace Go.Proofs.YtkfkjcadmdcbnaaGreatDoor
open Go.RowKit Go.Proofs.YtkfkjcadmdcbnaaGreatDoor.Hexa Go.Proofs.YtkfkjcadmdcbnaaGreatDoor.Byt

/-- A number's bytes say it. -/
theorem numV_num (m k : Nat) (h : m < 256 ^ k) : numV (numL m k k) = m := by
  have H : ∀ j, j ≤ k → numV (numL m k j) = m / 256 ^ (k - j) := by
    intro j
    induction j with
    | zero => intro _; rw [Nat.sub_zero, Nat.div_eq_of_lt h]; rfl
    | succ j ih =>
      intro hj
      rw [← numL_next, numV_snoc, ih (by omega), UInt8.toNat_ofNat']
      have e : k - j = (k - 1 - j) + 1 := by omega
      rw [e, Nat.pow_succ, ← Nat.div_div_eq_div_mul, show k - (j + 1) = k - 1 - j by omega]
      have := Nat.div_add_mod (m / 256 ^ (k - 1 - j)) 256
      omega
  have := H k (Nat.le_refl _)
  simpa using this
theorem numAt_fore (s : ByteArray) (a k : Nat) (n : Int) (hk : 1 ≤ k ∧ k ≤ 7) (h : a + k ≤ s.size) (h0 : 0 ≤ n) (h1 : n < 256 ^ k) (hc : cutL s a k = (numTextB n k).data.toList) : numAtV s a k = n := by
  have e : numTextB n k = numB n.toNat k := by
    unfold numTextB
    rw [if_pos ⟨h0, by omega, by simpa using h1⟩]
    simp
  have e2 : (numTextB n k).data.toList = numL n.toNat k k := by rw [e]; rfl
  have e3 : numAtV s a k = (numV (cutL s a k) : Int) := by
    unfold numAtV
    rw [if_pos ⟨by omega, by omega⟩]
    simp
  have h2 : n.toNat < 256 ^ k := by
    have h3 : ((n.toNat : Nat) : Int) < ((256 ^ k : Nat) : Int) := by rw [Int.toNat_of_nonneg h0]; simpa using h1
    exact Int.ofNat_lt.1 h3
  rw [e3, hc, e2, numV_num _ _ h2, Int.toNat_of_nonneg h0]
end Go.Proofs.YtkfkjcadmdcbnaaGreatDoor
namespace Go.Proofs.YtkfkjcadmdcbnaaGreatDoor
open Go.RowKit Go.Proofs.YtkfkjcadmdcbnaaGreatDoor.Hexa Go.Proofs.YtkfkjcadmdcbnaaGreatDoor.Byt

theorem numV_take (l : List UInt8) (i : Nat) (h : i < l.length) : numV (l.take (i + 1)) = 256 * numV (l.take i) + (l[i]'h).toNat := by
  rw [List.take_succ_eq_append_getElem h, numV_snoc]
theorem numV_div (l : List UInt8) : ∀ d i : Nat, i + d = l.length → numV l / 256 ^ d = numV (l.take i)
  | 0, i, h => by rw [List.take_of_length_le (by omega)]; simp
  | d + 1, i, h => by
    have h1 := numV_div l d (i + 1) (by omega)
    have h2 := numV_take l i (by omega)
    have hb := (l[i]'(by omega)).toNat_lt
    rw [Nat.pow_succ, ← Nat.div_div_eq_div_mul, h1, h2]
    omega
theorem numL_back (l : List UInt8) (k : Nat) (hk : l.length = k) : numL (numV l) k k = l := by
  subst hk
  apply List.ext_getElem
  · simp [numL_length]
  · intro j h1 h2
    have hd := numV_div l (l.length - 1 - j) (j + 1) (by omega)
    have ht := numV_take l j h2
    have e : (numL (numV l) l.length l.length)[j] = UInt8.ofNat (numV l / 256 ^ (l.length - 1 - j)) := by simp [numL]
    rw [e, hd, ht]
    apply UInt8.toNat_inj.1
    rw [UInt8.toNat_ofNat']
    have hb := (l[j]'h2).toNat_lt
    omega
theorem pow_cast {m k : Nat} (h : m < 256 ^ k) : (m : Int) < (256 : Int) ^ k := by
  have h2 := Int.ofNat_lt.2 h
  rw [Int.natCast_pow] at h2
  exact h2
/-- The number that a cut of a text says, written again. -/
theorem numText_back (s : ByteArray) (a k : Nat) (hk : 1 ≤ k ∧ k ≤ 7) (h : a + k ≤ s.size) : (numTextB (numAtV s a k) k).data.toList = cutL s a k := by
  have hl := cutL_length s a k h
  have hv : numAtV s a k = (numV (cutL s a k) : Int) := by
    unfold numAtV
    rw [if_pos ⟨by omega, by omega⟩]
    simp
  have hlt := numV_lt (cutL s a k)
  rw [hl] at hlt
  have hI := pow_cast hlt
  unfold numTextB
  rw [hv, if_pos ⟨by omega, by omega, by rw [Int.toNat_natCast]; exact hI⟩]
  simp only [Int.toNat_natCast, numB]
  exact numL_back _ _ hl
theorem numAtV_nat (s : ByteArray) (a k : Nat) (hk : 1 ≤ k ∧ k ≤ 7) (h : a + k ≤ s.size) : numAtV s a k = (numV (cutL s a k) : Int) := by
  unfold numAtV
  rw [if_pos ⟨by omega, by omega⟩]
  simp
theorem numAtV_lt (s : ByteArray) (a k : Nat) (hk : 1 ≤ k ∧ k ≤ 7) (h : a + k ≤ s.size) : 0 ≤ numAtV s a k ∧ numAtV s a k < 256 ^ k := by
  have hl := cutL_length s a k h
  have hlt := numV_lt (cutL s a k)
  rw [hl] at hlt
  rw [numAtV_nat s a k hk h]
  exact ⟨by omega, pow_cast hlt⟩
end Go.Proofs.YtkfkjcadmdcbnaaGreatDoor
namespace Go.Proofs.YtkfkjcadmdcbnaaGreatDoor
open Go.RowKit Go.Proofs.YtkfkjcadmdcbnaaGreatDoor.Parts Go.Proofs.YtkfkjcadmdcbnaaGreatDoor.Hexa

structure RecR where
  f0 : Int
  f1 : Int
  f2 : ByteArray
instance : Inhabited RecR := ⟨⟨0, 0, ByteArray.empty⟩⟩
def encRec : Enc RecR := ⟨3, fun s => [.int .i64 s.f0, .int .i64 s.f1, .string s.f2], fun _ => rfl⟩
theorem encRec_cells (s : RecR) : encRec.cells s = [.int .i64 s.f0, .int .i64 s.f1, .string s.f2] := rfl
theorem encRec_one (s : RecR) : ∀ v ∈ encRec.cells s, v.oneCell' = true := by
  intro v hv
  rw [encRec_cells] at hv
  simp only [List.mem_cons, List.not_mem_nil, or_false] at hv
  rcases hv with rfl | rfl | rfl <;> rfl
theorem cellsRec_one : ∀ L : List RecR, ∀ v ∈ cellsE encRec L, v.oneCell' = true
  | [], v, hv => by cases hv
  | x :: r, v, hv => by
    rw [cellsE, List.mem_append] at hv
    rcases hv with h | h
    · exact encRec_one x v h
    · exact cellsRec_one r v h
theorem cellsRec_length (L : List RecR) : (cellsE encRec L).length = L.length * 3 := cellsE_length encRec L
abbrev SrcRec (w : World) (a : Option Addr) (n : Nat) (L : List RecR) : Prop := SrcE encRec w a n L
theorem srcRec_at {w : World} {a : Option Addr} {n : Nat} {L : List RecR} (h : SrcRec w a n L) (j : Nat) (hj : j < n) : ∃ g off, a = some ⟨g, off, none⟩ ∧ g < w.heap.size ∧ w.cell? ⟨g, off + j * 3, none⟩ = some (.int .i64 (L.getD j default).f0) ∧ w.cell? ⟨g, off + j * 3 + 1, none⟩ = some (.int .i64 (L.getD j default).f1) ∧ w.cell? ⟨g, off + j * 3 + 2, none⟩ = some (.string (L.getD j default).f2) := by
  obtain ⟨g, off, e, hg, c⟩ := h.cell j hj
  exact ⟨g, off, e, hg, c 0 _ rfl, c 1 _ rfl, c 2 _ rfl⟩
/-- The same at a later world. -/
theorem srcRec_later {w w' : World} {a : Option Addr} {n : Nat} {L : List RecR} {B : Nat} (h : SrcRec w a n L) (hb : Below B w w') (hB : w.heap.size ≤ B) (j : Nat) (hj : j < n) : ∃ g off, a = some ⟨g, off, none⟩ ∧ g < w.heap.size ∧ w'.cell? ⟨g, off + j * 3, none⟩ = some (.int .i64 (L.getD j default).f0) ∧ w'.cell? ⟨g, off + j * 3 + 1, none⟩ = some (.int .i64 (L.getD j default).f1) ∧ w'.cell? ⟨g, off + j * 3 + 2, none⟩ = some (.string (L.getD j default).f2) := by
  obtain ⟨g, off, e, hg, _⟩ := h.cell j hj
  obtain ⟨g', off', e', _, c0, c1, c2⟩ := srcRec_at (h.below hb hB) j hj
  rw [e] at e'
  cases e'
  exact ⟨g, off, e, hg, c0, c1, c2⟩
theorem srcRec_of_own {w : World} {B e n cap : Nat} {a : Option Addr} {L : List RecR} (h : w.ownsRow B e 3 (.slice a n cap) n (cellsE encRec L)) : SrcRec w a n L := srcE_of_own (E := encRec) h (by decide)
theorem infoRec : (Tryz.prog.info? 139).map (fun i => (i.zero, i.size, i.bytes)) = some (some (.agg #[.int .i64 0, .int .i64 0, .string ByteArray.empty]), 3, 32) := by kernel_rfl
/-- What a slice of them holds: no text longer than b. -/
def FitRec (L : List RecR) (n b : Nat) : Prop := ∀ j, j < n → (L.getD j default).f2.size ≤ b
def FitTRec (L : List RecR) (b : Nat) : Prop := FitRec L L.length b
end Go.Proofs.YtkfkjcadmdcbnaaGreatDoor
namespace Go.Proofs.YtkfkjcadmdcbnaaGreatDoor
open Go.RowKit Go.Proofs.YtkfkjcadmdcbnaaGreatDoor.Parts Go.Proofs.YtkfkjcadmdcbnaaGreatDoor.Hexa

structure EntryR where
  f0 : Int
  f1 : ByteArray
instance : Inhabited EntryR := ⟨⟨0, ByteArray.empty⟩⟩
def encEntry : Enc EntryR := ⟨2, fun s => [.int .i64 s.f0, .string s.f1], fun _ => rfl⟩
theorem encEntry_cells (s : EntryR) : encEntry.cells s = [.int .i64 s.f0, .string s.f1] := rfl
theorem encEntry_one (s : EntryR) : ∀ v ∈ encEntry.cells s, v.oneCell' = true := by
  intro v hv
  rw [encEntry_cells] at hv
  simp only [List.mem_cons, List.not_mem_nil, or_false] at hv
  rcases hv with rfl | rfl <;> rfl
theorem cellsEntry_one : ∀ L : List EntryR, ∀ v ∈ cellsE encEntry L, v.oneCell' = true
  | [], v, hv => by cases hv
  | x :: r, v, hv => by
    rw [cellsE, List.mem_append] at hv
    rcases hv with h | h
    · exact encEntry_one x v h
    · exact cellsEntry_one r v h
theorem cellsEntry_length (L : List EntryR) : (cellsE encEntry L).length = L.length * 2 := cellsE_length encEntry L
abbrev SrcEntry (w : World) (a : Option Addr) (n : Nat) (L : List EntryR) : Prop := SrcE encEntry w a n L
theorem srcEntry_at {w : World} {a : Option Addr} {n : Nat} {L : List EntryR} (h : SrcEntry w a n L) (j : Nat) (hj : j < n) : ∃ g off, a = some ⟨g, off, none⟩ ∧ g < w.heap.size ∧ w.cell? ⟨g, off + j * 2, none⟩ = some (.int .i64 (L.getD j default).f0) ∧ w.cell? ⟨g, off + j * 2 + 1, none⟩ = some (.string (L.getD j default).f1) := by
  obtain ⟨g, off, e, hg, c⟩ := h.cell j hj
  exact ⟨g, off, e, hg, c 0 _ rfl, c 1 _ rfl⟩
/-- The same at a later world. -/
theorem srcEntry_later {w w' : World} {a : Option Addr} {n : Nat} {L : List EntryR} {B : Nat} (h : SrcEntry w a n L) (hb : Below B w w') (hB : w.heap.size ≤ B) (j : Nat) (hj : j < n) : ∃ g off, a = some ⟨g, off, none⟩ ∧ g < w.heap.size ∧ w'.cell? ⟨g, off + j * 2, none⟩ = some (.int .i64 (L.getD j default).f0) ∧ w'.cell? ⟨g, off + j * 2 + 1, none⟩ = some (.string (L.getD j default).f1) := by
  obtain ⟨g, off, e, hg, _⟩ := h.cell j hj
  obtain ⟨g', off', e', _, c0, c1⟩ := srcEntry_at (h.below hb hB) j hj
  rw [e] at e'
  cases e'
  exact ⟨g, off, e, hg, c0, c1⟩
theorem srcEntry_of_own {w : World} {B e n cap : Nat} {a : Option Addr} {L : List EntryR} (h : w.ownsRow B e 2 (.slice a n cap) n (cellsE encEntry L)) : SrcEntry w a n L := srcE_of_own (E := encEntry) h (by decide)
theorem infoEntry : (Tryz.prog.info? 143).map (fun i => (i.zero, i.size, i.bytes)) = some (some (.agg #[.int .i64 0, .string ByteArray.empty]), 2, 24) := by kernel_rfl
/-- What a slice of them holds: no text longer than b. -/
def FitEntry (L : List EntryR) (n b : Nat) : Prop := ∀ j, j < n → (L.getD j default).f1.size ≤ b
def FitTEntry (L : List EntryR) (b : Nat) : Prop := FitEntry L L.length b
end Go.Proofs.YtkfkjcadmdcbnaaGreatDoor
namespace Go.Proofs.YtkfkjcadmdcbnaaGreatDoor

def NameC (b : UInt8) : Prop := (97 ≤ b.toNat ∧ b.toNat ≤ 122) ∨ (48 ≤ b.toNat ∧ b.toNat ≤ 57)
instance (b : UInt8) : Decidable (NameC b) := by unfold NameC; infer_instance
def NameR (s : ByteArray) : Prop := (1 ≤ s.size ∧ s.size ≤ 7) ∧ ∀ b ∈ s.data.toList, NameC b
instance (s : ByteArray) : Decidable (NameR s) := by unfold NameR; infer_instance
def nameB (s : ByteArray) : Bool := decide (NameR s)
theorem nameB_yes {s : ByteArray} (h : NameR s) : nameB s = true := decide_eq_true h
theorem nameB_no {s : ByteArray} (h : ¬ NameR s) : nameB s = false := decide_eq_false h

end Go.Proofs.YtkfkjcadmdcbnaaGreatDoor
namespace Go.Proofs.YtkfkjcadmdcbnaaGreatDoor
def pagesZ (n : Int) : Int := if n ≤ 0 then 0 else (n - 1) / 32 + 1
end Go.Proofs.YtkfkjcadmdcbnaaGreatDoor
namespace Go.Proofs.YtkfkjcadmdcbnaaGreatDoor
open Go.RowKit Go.Proofs.YtkfkjcadmdcbnaaGreatDoor.Parts Go.Proofs.YtkfkjcadmdcbnaaGreatDoor.Hexa Go.Proofs.YtkfkjcadmdcbnaaGreatDoor.Byt

def RecOk (r : RecR) : Prop := (1 ≤ r.f0 ∧ r.f0 ≤ 12) ∧ (1 ≤ r.f1 ∧ r.f1 ≤ 16777215) ∧ r.f2.size = 4
instance (r : RecR) : Decidable (RecOk r) := by unfold RecOk; infer_instance
def recWordB (r : RecR) : ByteArray := if RecOk r then numTextB r.f0 1 ++ numTextB r.f1 3 ++ r.f2 else ⟨#[]⟩
theorem recWordB_yes {r : RecR} (h : RecOk r) : recWordB r = numTextB r.f0 1 ++ numTextB r.f1 3 ++ r.f2 := if_pos h
theorem recWordB_no {r : RecR} (h : ¬ RecOk r) : recWordB r = ⟨#[]⟩ := if_neg h
def recOf (s : ByteArray) : RecR := ⟨numAtV s 0 1, numAtV s 1 3, s.extract 4 8⟩
def recReadB (s : ByteArray) : Bool := decide (s.size = 8 ∧ RecOk (recOf s))
def recReadR (s : ByteArray) : RecR := if s.size = 8 ∧ RecOk (recOf s) then recOf s else ⟨0, 0, ⟨#[]⟩⟩

def EntryOk (e : EntryR) : Prop := (1 ≤ e.f0 ∧ e.f0 ≤ 5) ∧ NameR e.f1
instance (e : EntryR) : Decidable (EntryOk e) := by unfold EntryOk; infer_instance
def entryWordB (e : EntryR) : ByteArray := if EntryOk e then wordB (numTextB e.f0 1 ++ e.f1) else ⟨#[]⟩
theorem entryWordB_yes {e : EntryR} (h : EntryOk e) : entryWordB e = wordB (numTextB e.f0 1 ++ e.f1) := if_pos h
theorem entryWordB_no {e : EntryR} (h : ¬ EntryOk e) : entryWordB e = ⟨#[]⟩ := if_neg h

theorem numText_size {n : Int} {k : Nat} (hk : 1 ≤ k ∧ k ≤ 7) (h0 : 0 ≤ n) (h1 : n < 256 ^ k) : (numTextB n k).size = k := by
  have e : numTextB n k = numB n.toNat k := by
    unfold numTextB
    rw [if_pos ⟨h0, by omega, by simpa using h1⟩]
    simp
  rw [e]
  show (numL n.toNat k k).toArray.size = k
  simp [numL_length]
theorem recWord_size {r : RecR} (h : RecOk r) : (recWordB r).size = 8 := by
  obtain ⟨⟨h0, h1⟩, ⟨h2, h3⟩, h4⟩ := h
  rw [recWordB_yes ⟨⟨h0, h1⟩, ⟨h2, h3⟩, h4⟩]
  have e1 : (numTextB r.f0 1).size = 1 := numText_size (k := 1) (by omega) (by omega) (by omega)
  have e2 : (numTextB r.f1 3).size = 3 := numText_size (k := 3) (by omega) (by omega) (by omega)
  rw [ByteArray.size_append, ByteArray.size_append, h4, e1, e2]
theorem recWord_empty {r : RecR} : recWordB r = ⟨#[]⟩ ↔ ¬ RecOk r := by
  refine ⟨fun h hr => ?_, recWordB_no⟩
  have := recWord_size hr
  rw [h] at this
  exact absurd this (by decide)
theorem cut_extract (s : ByteArray) (a k : Nat) : (s.extract a (a + k)).data.toList = cutL s a k := by
  unfold cutL
  simp [List.take_drop]
theorem rec_back {s : ByteArray} (h8 : s.size = 8) (h : RecOk (recOf s)) : recWordB (recOf s) = s := by
  rw [recWordB_yes h]
  have e1 := numText_back s 0 1 (by omega) (by omega)
  have e2 := numText_back s 1 3 (by omega) (by omega)
  have e3 : (s.extract 4 8).data.toList = cutL s 4 4 := cut_extract s 4 4
  have hl : s.data.toList.length = 8 := by simpa using h8
  cases s with
  | mk d =>
    apply ByteArray.ext
    apply Array.toList_inj.1
    simp only [ByteArray.data_append, Array.toList_append, recOf]
    rw [show ((0 : Int)) = ((0 : Nat) : Int) from rfl, show ((1 : Int)) = ((1 : Nat) : Int) from rfl, show ((3 : Int)) = ((3 : Nat) : Int) from rfl, e1, e2, e3]
    unfold cutL
    simp only at hl ⊢
    match d.toList, hl with
    | [b0, b1, b2, b3, b4, b5, b6, b7], _ => rfl
end Go.Proofs.YtkfkjcadmdcbnaaGreatDoor
