/- Merged texts: PathToMath, Says, Geo, DepSpec, AppE, AppTs, PathToSpec, DepImpl, RevImpl, IdxI, PathToImpl, PathToLaw, EntEq, EntryA, EntSpec, RangeImpl, NameImpl, Made, NumImpl, NumImplB, WordImpl. -/
import Derived.Test.YtmkchilhnmkhkaaP15AC
import Derived.Test.YtmkchilhnmkhkaaRows
import Derived.Below
import Derived.RowKit3
import Derived.WalkKit
import Derived.WalkSpells
import Derived.WalkLawsBesides
import Derived.IntWalk
import Derived.Lib.Hide
import Derived.OwnWalk
import Derived.OneCell
import Derived.Deep.QuietTactic
import Derived.Deep.RegionWith
import Derived.BigQuiet
import Derived.Maps.AppendAt
import Derived.Lib.AppendZeros
import Derived.Lib.SliceRun
import Derived.Deep.AppendLies
import Derived.Deep.LoopGhost
import Derived.Test.YtmkchilhnmkhkaaShelfV
import Derived.Laws.MakeOwn
import Derived.Lib.AppendStr
import Derived.Deep.RegionLaw
namespace Go.Proofs.Ytmkchilhnmkhkaa

def nameUp (L : List InoR) (i : Int) : ByteArray := nameIn (L.getD (aboveZ L i).toNat default).E i
/-- d steps lead from inode i to inode 0. -/
def Way (L : List InoR) : Nat → Int → Prop
  | 0, i => i = 0
  | d + 1, i => i ≠ 0 ∧ 0 ≤ aboveZ L i ∧ Way L d (aboveZ L i)
def ups (L : List InoR) : Nat → Int → List ByteArray
  | 0, _ => []
  | d + 1, i => nameUp L i :: ups L d (aboveZ L i)
theorem ups_len (L : List InoR) : ∀ d i, (ups L d i).length = d
  | 0, _ => rfl
  | d + 1, i => by rw [ups, List.length_cons, ups_len]
theorem way_of_depth (L : List InoR) : ∀ (f n : Nat) (i r : Int), depthGo L f n i = r → 0 ≤ r → ∃ d : Nat, d < f ∧ r = ((n + d : Nat) : Int) ∧ Way L d i
  | 0, n, i, r, h, h0 => by rw [depthGo] at h; omega
  | f + 1, n, i, r, h, h0 => by
    rw [depthGo] at h
    by_cases hi : i = 0
    · rw [if_pos hi] at h
      exact ⟨0, by omega, by omega, hi⟩
    · rw [if_neg hi] at h
      by_cases ha : aboveZ L i < 0
      · rw [if_pos ha] at h; omega
      · rw [if_neg ha] at h
        obtain ⟨d, h1, h2, h3⟩ := way_of_depth L f (n + 1) _ r h h0
        exact ⟨d + 1, by omega, by omega, hi, by omega, h3⟩
theorem depthGo_cases (L : List InoR) : ∀ (f n : Nat) (i : Int), depthGo L f n i = -1 ∨ 0 ≤ depthGo L f n i
  | 0, _, _ => .inl rfl
  | f + 1, n, i => by
    rw [depthGo]
    by_cases hi : i = 0
    · rw [if_pos hi]; exact .inr (by omega)
    · rw [if_neg hi]
      by_cases ha : aboveZ L i < 0
      · rw [if_pos ha]; exact .inl rfl
      · rw [if_neg ha]; exact depthGo_cases L f (n + 1) _
theorem depth_cases (L : List InoR) (i : Int) : depthZ L i = -1 ∨ 0 ≤ depthZ L i := depthGo_cases L _ 0 i
theorem above_has (L : List InoR) (i : Int) (h : 0 ≤ aboveZ L i) : ∃ q : Nat, q < L.length ∧ aboveZ L i = (q : Int) ∧ (L.getD q default).kd = 2 ∧ hasI (L.getD q default).E i = true := by
  have key : ∀ (L : List InoR) (k : Nat), 0 ≤ aboveGo L i k → ∃ q, q < L.length ∧ aboveGo L i k = ((k + q : Nat) : Int) ∧ hasI (dirE (L.getD q default)) i = true := by
    intro L
    induction L with
    | nil => intro k h; rw [aboveGo] at h; omega
    | cons n r ih =>
      intro k h
      by_cases hh : hasI (dirE n) i = true
      · exact ⟨0, by simp, by rw [aboveGo, if_pos hh, Nat.add_zero], by simpa using hh⟩
      · rw [aboveGo, if_neg hh] at h
        obtain ⟨q, h1, h2, h3⟩ := ih (k + 1) h
        exact ⟨q + 1, by simpa using h1, by rw [aboveGo, if_neg hh, h2]; congr 1; omega, by simpa using h3⟩
  obtain ⟨q, h1, h2, h3⟩ := key L 0 h
  have hk : (L.getD q default).kd = 2 := by
    by_cases hk : (L.getD q default).kd = 2
    · exact hk
    · rw [dirE_no hk] at h3; cases h3
  refine ⟨q, h1, ?_, hk, ?_⟩
  · rw [Nat.zero_add] at h2; exact h2
  · rw [dirE_yes hk] at h3; exact h3
def pathToB (L : List InoR) (i : Int) : ByteArray := if 0 ≤ i ∧ i < (L.length : Int) ∧ 0 ≤ depthZ L i then joinB (ups L (depthZ L i).toNat i).reverse else ⟨#[]⟩
theorem depth_way {L : List InoR} {i : Int} (h : 0 ≤ depthZ L i) : ∃ d : Nat, d ≤ L.length ∧ depthZ L i = (d : Int) ∧ Way L d i := by
  obtain ⟨d, h1, h2, h3⟩ := way_of_depth L _ 0 i _ rfl h
  exact ⟨d, by omega, by have : depthZ L i = ((0 + d : Nat) : Int) := h2; rw [Nat.zero_add] at this; exact this, h3⟩
theorem nameIn_size {M : List EntryR} {i : Int} {m : Nat} (h : ∀ j, j < M.length → (M.getD j default).f1.size ≤ m) : (nameIn M i).size ≤ m := by
  unfold nameIn
  cases hf : M.find? (fun e => e.f0 == i) with
  | none => exact Nat.le_trans (by decide) (Nat.zero_le m)
  | some e =>
    have h1 := List.mem_of_find?_eq_some hf
    obtain ⟨j, hj, rfl⟩ := List.mem_iff_getElem.1 h1
    have := h j hj
    simpa [List.getD, hj] using this
theorem entry_size {L : List InoR} {q j : Nat} {z : Nat} (hq : q < L.length) (hj : j < (L.getD q default).E.length) (h : szL (celsE cIno L) ≤ z) : ((L.getD q default).E.getD j default).f1.size ≤ z := by
  have h3 := szL_at cIno L q hq
  rw [cIno_sz] at h3
  have h4 := szL_at cEntry (L.getD q default).E j hj
  rw [cEntry_sz] at h4
  have h5 := sz_row cEntry (L.getD q default).E
  omega
theorem ups_size {L : List InoR} {z : Nat} (h : szL (celsE cIno L) ≤ z) : ∀ (d : Nat) (i : Int), Way L d i → ∀ x ∈ ups L d i, x.size ≤ z
  | 0, _, _, x, hx => by cases hx
  | d + 1, i, hw, x, hx => by
    rw [ups] at hx
    rcases List.mem_cons.1 hx with rfl | hx
    · obtain ⟨q, hq, he, _, _⟩ := above_has L i hw.2.1
      unfold nameUp
      rw [he]
      exact nameIn_size (fun j hj => entry_size hq hj h)
    · exact ups_size h d _ hw.2.2 x hx
end Go.Proofs.Ytmkchilhnmkhkaa
namespace Go.Proofs.Ytmkchilhnmkhkaa
open Go.RowKit
def SaysB (b : Bool) (w : World) (e : Ending) (w' : World) : Prop := e = .returned (.bool b) ∧ Below w.heap.size w w'
end Go.Proofs.Ytmkchilhnmkhkaa
namespace Go.Proofs.Ytmkchilhnmkhkaa
open Go.RowKit

/-- A block of four cells. -/
def Four (w : World) (b : Nat) (T P I Q : Int) (t : TypeId) : Prop := w.heap[b]? = some (.cells #[.int .i64 T, .int .i64 P, .int .i64 I, .int .i64 Q] t (0, 0))
theorem Four.lt {w : World} {b : Nat} {T P I Q : Int} {t : TypeId} (h : Four w b T P I Q t) : b < w.heap.size := (Array.getElem?_eq_some_iff.1 h).1
theorem Four.later {w w' : World} {b : Nat} {T P I Q : Int} {t : TypeId} (h : Four w b T P I Q t) (hb : Below w.heap.size w w') : Four w' b T P I Q t := (hb.block b h.lt).trans h
theorem Four.alloc (w : World) (T P I Q : Int) (t : TypeId) : Four (w.alloc (.cells #[.int .i64 T, .int .i64 P, .int .i64 I, .int .i64 Q] t)) w.heap.size T P I Q t := heap_alloc_new w _
theorem Four.c0 {w : World} {b : Nat} {T P I Q : Int} {t : TypeId} (h : Four w b T P I Q t) : w.cell? ⟨b, 0, none⟩ = some (.int .i64 T) := by unfold Four at h; simp [World.cell?, h]
theorem Four.c1 {w : World} {b : Nat} {T P I Q : Int} {t : TypeId} (h : Four w b T P I Q t) : w.cell? ⟨b, 1, none⟩ = some (.int .i64 P) := by unfold Four at h; simp [World.cell?, h]
theorem Four.c2 {w : World} {b : Nat} {T P I Q : Int} {t : TypeId} (h : Four w b T P I Q t) : w.cell? ⟨b, 2, none⟩ = some (.int .i64 I) := by unfold Four at h; simp [World.cell?, h]
theorem Four.c3 {w : World} {b : Nat} {T P I Q : Int} {t : TypeId} (h : Four w b T P I Q t) : w.cell? ⟨b, 3, none⟩ = some (.int .i64 Q) := by unfold Four at h; simp [World.cell?, h]
theorem Four.fr {w : World} {b o : Nat} {T P I Q : Int} {t : TypeId} (h : Four w b T P I Q t) : w.frozen? ⟨b, o, none⟩ = false := by unfold Four at h; simp [World.frozen?, h]
theorem Four.drew {w : World} {b : Nat} {T P I Q : Int} {t : TypeId} (h : Four w b T P I Q t) : Four w.drew b T P I Q t := h
theorem Four.setOther' {w : World} {b c o : Nat} {T P I Q : Int} {t : TypeId} {v : Value} (h : Four w b T P I Q t) (hne : b ≠ c) : Four (w.setCell ⟨c, o, none⟩ v) b T P I Q t := (Below.heap_setCell _ _ _ _ hne).trans h
theorem below_al (w : World) (o : Obj) : Below w.heap.size w (w.alloc o) := (Below.refl _ _).alloc (Nat.le_refl _) _

/-- Whether a layout is valid. -/
def GeoR (T P I Q : Int) : Prop := 1 ≤ T ∧ T ≤ 3 ∧ 5 ≤ P ∧ P ≤ 12 ∧ 2 ≤ I ∧ I ≤ 6 ∧ 1 ≤ Q ∧ Q ≤ P - 4
instance (T P I Q : Int) : Decidable (GeoR T P I Q) := by unfold GeoR; infer_instance
def SaysI (n : Int) (w : World) (e : Ending) (w' : World) : Prop := e = .returned (.int .i64 n) ∧ Below w.heap.size w w'
theorem geo_cases {T P I Q : Int} (h : ¬ GeoR T P I Q) : (¬ (1 ≤ T ∧ T ≤ 3)) ∨ ((1 ≤ T ∧ T ≤ 3) ∧ ¬ (5 ≤ P ∧ P ≤ 12)) ∨ ((1 ≤ T ∧ T ≤ 3) ∧ (5 ≤ P ∧ P ≤ 12) ∧ ¬ (2 ≤ I ∧ I ≤ 6)) ∨ ((1 ≤ T ∧ T ≤ 3) ∧ (5 ≤ P ∧ P ≤ 12) ∧ (2 ≤ I ∧ I ≤ 6) ∧ ¬ (1 ≤ Q ∧ Q ≤ P - 4)) := by
  unfold GeoR at h; omega
theorem within_cases (n a b : Int) : (a ≤ n ∧ n ≤ b) ∨ n < a ∨ (a ≤ n ∧ b < n) := by omega

/-- The words of a part. -/
def wordsOf (P I : Int) : Int := 38 + 8 * I + 4 * P
end Go.Proofs.Ytmkchilhnmkhkaa
namespace Go.Proofs.Ytmkchilhnmkhkaa
open Go.RowKit Go.Proofs.Ytmkchilhnmkhkaa.Parts Go.Proofs.Ytmkchilhnmkhkaa.Hexa

set_option maxRecDepth 100000 in
set_option maxHeartbeats 2000000 in
theorem specAbove_any (p : PartR) (a1 : Option Addr) (c1 : Nat) (a2 : Option Addr) (c2 : Nat) (i : Int) (w : World) (h2 : (celRow cIno p.ino).Rd w (.slice a2 p.ino.length c2)) (hz : szL (cPart.cels p) ≤ 100000000) :
    Calls Try.prog 40 #[.agg #[.int .i64 p.ser, .slice a1 p.st.length c1, .slice a2 p.ino.length c2], .int .i64 i] w (SaysI (aboveZ p.ino i) w) := by
  have B0 := Lib.hid (below_bk w (.cells #[.int .i64 p.ser, .slice a1 p.st.length c1, .slice a2 p.ino.length c2] 36))
  have T0 := Lib.hid (Bk.alloc w #[.int .i64 p.ser, .slice a1 p.st.length c1, .slice a2 p.ino.length c2] 36)
  have HS := Lib.hid (Cel.Rd.later B0.out _ _ h2)
  rw [cPart_sz] at hz
  have hz1 : p.ino.length + szL (celsE cIno p.ino) ≤ 100000000 := by have := sz_row cIno p.ino; omega
  have HE : Hid (∀ k, (entsOf (p.ino.take k)).length ≤ 100000000) := Lib.hid (fun k => by have := ents_take p.ino k; omega)
  have hn : p.ino.length ≤ 100000000 := by omega
  have HY : Hid (∀ k, k < p.ino.length → (p.ino.getD k default).E.length ≤ 100000000) := Lib.hid (fun k hk => by
    have h3 := szL_at cIno p.ino k hk
    rw [cIno_sz] at h3
    have := len_sz cEntry (p.ino.getD k default).E
    omega)
  clear h2 hz hz1
  obtain ⟨W0, hW0⟩ : ∃ x, x = w.alloc (.cells #[.int .i64 p.ser, .slice a1 p.st.length c1, .slice a2 p.ino.length c2] 36) := ⟨_, rfl⟩
  rw [← hW0] at B0 T0 HS
  have HW0 := Lib.hid hW0
  clear hW0
  have c2' := T0.out.cell (j := 2) rfl
  go_enter Try.func40, Try.ntmps40
  go_wp2
  rw [← HW0.out]
  go_loopw [5] (fun kv wr => ∃ (k : Nat), k ≤ p.ino.length ∧ kv = .int .i64 k ∧ Hid (∀ j, j < k → hasI (dirE (p.ino.getD j default)) i = false) ∧ W0 = wr) (fun kv _ => p.ino.length - (intOf kv).toNat)
  case atStart => exact ⟨0, Nat.zero_le _, rfl, Lib.hid (fun j hj => by omega), rfl⟩
  case round =>
    obtain ⟨k, hk, rfl, HM, rfl⟩ := hrel
    by_cases hlt : k < p.ino.length
    · have hy := HY.out k hlt
      have HA : Hid (hasI (dirE (p.ino.getD k default)) i = true → aboveZ p.ino i = (k : Int)) := Lib.hid (fun h => above_some hlt HM.out h)
      have HB : Hid (hasI (dirE (p.ino.getD k default)) i = false → ∀ j, j < k + 1 → hasI (dirE (p.ino.getD j default)) i = false) := Lib.hid (fun h j hj => by
        by_cases e : j = k
        · rw [e]; exact h
        · exact HM.out j (by omega))
      obtain ⟨g, off, a4, c4, a5, c5, rfl, hg, d0, d1, d2, d3, d4, d5, r4, r5⟩ := cIno_at HS.out k hlt
      obtain ⟨x, hx⟩ : ∃ x, p.ino.getD k default = x := ⟨_, rfl⟩
      rw [hx] at d0 d5 r5 hy HA HB
      clear hx d1 d2 d3 d4 r4
      have R5 := Lib.hid r5
      clear r5
      go_wp2
      go_loopw [6] (fun jv wr => ∃ (j : Nat), j ≤ x.E.length ∧ jv = .int .i64 j ∧ Hid (hasI (x.E.take j) i = false) ∧ (x.kd = 2 ∨ j = 0) ∧ W0 = wr) (fun jv _ => x.E.length - (intOf jv).toNat)
      case atStart => exact ⟨0, Nat.zero_le _, rfl, Lib.hid rfl, .inr rfl, rfl⟩
      case round =>
        obtain ⟨j, hj, rfl, HM', hor, rfl⟩ := hrel
        by_cases hjt : j < x.E.length
        · by_cases hkd : x.kd = 2
          · rw [hkd] at d0
            obtain ⟨ge, oe, rfl, hge, q0, q1⟩ := cEntry_at R5.out j hjt
            have HN := Lib.hid (hasI_next (i := i) hjt)
            obtain ⟨ev, hev⟩ : ∃ e, (x.E.getD j default).f0 = e := ⟨_, rfl⟩
            rw [hev] at q0 HN
            clear q1 hev
            by_cases hq : ev = i
            · have HC : Hid (aboveZ p.ino i = (k : Int)) := Lib.hid (HA.out (by rw [dirE_yes hkd]; exact hasI_take (j := j + 1) (by rw [HN.out, hq]; simp)))
              go_wp2
              go_ret
              exact ⟨ret_i64m HC.out.symm, B0.out⟩
            · have HC : Hid (hasI (x.E.take (j + 1)) i = false) := Lib.hid (by rw [HN.out, HM'.out]; simpa using hq)
              go_wp2
              go_roundw
              case rel => exact ⟨j + 1, by omega, by go_num, HC, by simp [hkd], by first | rfl | trivial⟩
              case measure => (simp [intOf]; try omega)
          · have HC := Lib.hid (HB.out (by rw [dirE_no hkd]; rfl))
            go_wp2
            go_roundw
            case rel => exact ⟨k + 1, by omega, by go_num, HC, by first | rfl | trivial⟩
            case measure => (simp [intOf]; try omega)
        · obtain rfl : j = x.E.length := by omega
          have HC := Lib.hid (HB.out (by
            have h9 := HM'.out
            rw [List.take_length] at h9
            by_cases hkd : x.kd = 2
            · rw [dirE_yes hkd]; exact h9
            · rw [dirE_no hkd]; rfl))
          go_wp2
          go_roundw
          case rel => exact ⟨k + 1, by omega, by go_num, HC, by first | rfl | trivial⟩
          case measure => (simp [intOf]; try omega)
    · obtain rfl : k = p.ino.length := by omega
      have HC := Lib.hid (above_none HM.out)
      go_wp2
      go_ret
      exact ⟨ret_i64m HC.out.symm, B0.out⟩

set_option maxRecDepth 100000 in
set_option maxHeartbeats 2000000 in
theorem specDepth_any (p : PartR) (a1 : Option Addr) (c1 : Nat) (a2 : Option Addr) (c2 : Nat) (i : Int) (w : World) (h2 : (celRow cIno p.ino).Rd w (.slice a2 p.ino.length c2)) (hz : szL (cPart.cels p) ≤ 100000000) :
    Calls Try.prog 39 #[.agg #[.int .i64 p.ser, .slice a1 p.st.length c1, .slice a2 p.ino.length c2], .int .i64 i] w (SaysI (depthZ p.ino i) w) := by
  have B0 := Lib.hid (below_bk w (.cells #[.int .i64 p.ser, .slice a1 p.st.length c1, .slice a2 p.ino.length c2] 36))
  have T0 := Lib.hid (Bk.alloc w #[.int .i64 p.ser, .slice a1 p.st.length c1, .slice a2 p.ino.length c2] 36)
  have HS := Lib.hid h2
  have HZ := Lib.hid hz
  rw [cPart_sz] at hz
  have hn : p.ino.length ≤ 100000000 := by have := sz_row cIno p.ino; omega
  clear h2 hz
  obtain ⟨d, hd⟩ : ∃ d, depthZ p.ino i = d := ⟨_, rfl⟩
  rw [hd]
  have HD : Hid (depthGo p.ino (p.ino.length + 1) 0 i = d) := Lib.hid hd
  clear hd
  go_enter Try.func39, Try.ntmps39
  go_wp2
  go_loopw [1, 5] (fun iv nv wr => ∃ (n : Nat) (z : Int), n ≤ p.ino.length + 1 ∧ nv = .int .i64 n ∧ iv = .int .i64 z ∧ Hid (depthGo p.ino (p.ino.length + 1 - n) n z = d) ∧ Below w.heap.size w wr ∧ Hid (Bk wr w.heap.size #[.int .i64 p.ser, .slice a1 p.st.length c1, .slice a2 p.ino.length c2] 36)) (fun _ nv _ => p.ino.length + 1 - (intOf nv).toNat)
  case atStart => exact ⟨0, i, Nat.zero_le _, rfl, rfl, HD, B0.out, T0⟩
  case round =>
    clear HD T0
    obtain ⟨n, z, hnn, rfl, rfl, HG, hbel, HT⟩ := hrel
    have t0 := HT.out.cell (j := 0) rfl
    have t1 := HT.out.cell (j := 1) rfl
    have t2 := HT.out.cell (j := 2) rfl
    by_cases hlt : n ≤ p.ino.length
    · have HG2 : Hid ((if z = 0 then (n : Int) else if aboveZ p.ino z < 0 then -1 else depthGo p.ino (p.ino.length + 1 - (n + 1)) (n + 1) (aboveZ p.ino z)) = d) := Lib.hid (by
        have h9 := HG.out
        rw [show p.ino.length + 1 - n = (p.ino.length + 1 - (n + 1)) + 1 by omega, depthGo] at h9
        exact h9)
      clear HG
      by_cases hz0 : z = 0
      · have HE : Hid ((n : Int) = d) := Lib.hid (by have h9 := HG2.out; rw [if_pos hz0] at h9; exact h9)
        subst hz0
        go_wp2
        go_ret
        exact ⟨ret_i64m HE.out, hbel⟩
      · go_wp2_with fail
        refine (specAbove_any p a1 c1 a2 c2 z _ (Cel.Rd.later hbel _ _ HS.out) HZ.out).mono ?_
        rintro e w1 ⟨rfl, hb⟩
        have HT1 := Lib.hid (HT.out.later hb)
        have hb2 : Below w.heap.size w w1 := hbel.trans (hb.mono hbel.size)
        obtain ⟨q, hq⟩ : ∃ q, aboveZ p.ino z = q := ⟨_, rfl⟩
        have HG3 := HG2.out
        rw [if_neg hz0, hq] at HG3
        rw [hq]
        have HG4 := Lib.hid HG3
        clear HG3 hb hq HG2 t0 t1 t2
        by_cases hq0 : q < 0
        · have HE : Hid (-1 = d) := Lib.hid (by have h9 := HG4.out; rw [if_pos hq0] at h9; exact h9)
          go_wp2
          go_ret
          exact ⟨ret_i64m HE.out, hb2⟩
        · have HE : Hid (depthGo p.ino (p.ino.length + 1 - (n + 1)) (n + 1) q = d) := Lib.hid (by have h9 := HG4.out; rw [if_neg hq0] at h9; exact h9)
          go_wp2
          go_roundw
          case rel => exact ⟨n + 1, q, by omega, by go_num, rfl, HE, hb2, HT1⟩
          case measure => (simp [intOf]; try omega)
    · obtain rfl : n = p.ino.length + 1 := by omega
      have HE : Hid (-1 = d) := Lib.hid (by have h9 := HG.out; rw [Nat.sub_self] at h9; exact h9)
      go_wp2
      go_ret
      exact ⟨ret_i64m HE.out, hbel⟩
end Go.Proofs.Ytmkchilhnmkhkaa
namespace Go.Proofs.Ytmkchilhnmkhkaa
open Go.RowKit Go.Proofs.Ytmkchilhnmkhkaa.Parts Go.Proofs.Ytmkchilhnmkhkaa.Hexa

theorem SrcE.news {α : Type} [Inhabited α] {E : Enc α} {w : World} {p : Addr} {n : Nat} {L : List α} (h : SrcE E w (some p) n L) (hk0 : 0 < E.k) : ∀ j u, (cellsE E L)[j]? = some u → w.cell? (p.add j) = some u := by
  intro j u hu
  have hj : j < L.length * E.k := by
    rcases Nat.lt_or_ge j (L.length * E.k) with h | h
    · exact h
    · rw [List.getElem?_eq_none (by rw [cellsE_length]; exact h)] at hu; cases hu
  have hd : j = j / E.k * E.k + j % E.k := by rw [Nat.mul_comm]; exact (Nat.div_add_mod j E.k).symm
  have hq : j / E.k < L.length := (Nat.div_lt_iff_lt_mul hk0).2 hj
  have hr := Nat.mod_lt j hk0
  rw [hd, cellsE_at E L _ _ hq hr] at hu
  obtain ⟨g, off, e, _, c⟩ := h.cell (j / E.k) (by rw [← h.len]; exact hq)
  cases e
  have := c _ _ hu
  rw [Nat.add_assoc, ← hd] at this
  rw [Addr.add_lit]; exact this

/-- What an append gives: a slice that owns the cells, in the row that it had or in a new one. -/
def AppE (P : Program) (args : Array TypeId) (ty : TypeId) (vs : Array Value) (w : World) (B e k n : Nat) (xs : List Value) (v : Value) : Prop :=
  ∃ v' w', (Builtin.append_ args ty vs).run P w = .ok v' w' ∧ w'.ownsRow B e k v' n xs ∧ w.grownBy w' v.ownBlock ∧ (v'.ownBlock = v.ownBlock ∨ v'.ownBlock = some w.heap.size)

theorem run_append_nothing {P : Program} (w : World) (base : Nat) (t ty e : TypeId) (i : TypeInfo) (size : Nat) (ht : P.underlying t = some (.slice e)) (hi : P.info? e = some i)
    (v : Value) (n c : Nat) (xs : List Value) (hown : w.ownsRow base e size v n xs) :
    (Builtin.append_ #[t, t] ty #[v, .slice none 0 c]).run P w = .ok v w := by
  rcases hown.2 with ⟨rfl, rfl⟩ | ⟨g, cap, cur, rfl, _, _, hnc, _⟩
  · simp [Builtin.append_, run_underlying ht, sizeOf, typeInfo, hi, Builtin.lenOf, Builtin.firstCells]
  · simp [Builtin.append_, run_underlying ht, sizeOf, typeInfo, hi, Builtin.lenOf, Builtin.firstCells, hnc, storeCells]

theorem wpList_appE {P : Program} {ops : Array Oper} {rest : List Oper} {o : Oper} {a : Act} {w : World} {Q : Exit → Act → World → Prop} (hgd : o.guard = none) (s x : Operand) (t tn : TypeId)
    (ho : o.op = .call { callee := .builtin .append, args := #[s, x], argTypes := #[t, tn] }) (vs vx : Value) (hs : a.eval s = vs) (hx : a.eval x = vx) {B e k n : Nat} {xs : List Value}
    (hr : AppE P #[t, tn] o.type #[vs, vx] w B e k n xs vs) (h : ∀ v' w', w'.ownsRow B e k v' n xs → w.grownBy w' vs.ownBlock → (v'.ownBlock = vs.ownBlock ∨ v'.ownBlock = some w.heap.size) → wpList P ops Q rest (a.put o.dst v') w') : wpList P ops Q (o :: rest) a w := by
  obtain ⟨v', w', r, h1, h2, h3⟩ := hr
  exact Lib.wpList_append_run w hgd s x t tn ho vs vx hs hx v' w' r (h v' w' h1 h2 h3)
/-- At a step of a region that draws its order. -/
theorem step_appE {P : Program} {ops : Array Oper} {o : Oper} {a : Act} {w : World} {K : Act → World → Prop} {Q : Exit → Act → World → Prop} {E : Prop} (hgd : o.guard = none) (s x : Operand) (t tn : TypeId)
    (ho : o.op = .call { callee := .builtin .append, args := #[s, x], argTypes := #[t, tn] }) (vs vx : Value) (hs : a.eval s = vs) (hx : a.eval x = vx) {B e k n : Nat} {xs : List Value}
    (hr : AppE P #[t, tn] o.type #[vs, vx] w B e k n xs vs) (h : ∀ v' w', w'.ownsRow B e k v' n xs → w.grownBy w' vs.ownBlock → (v'.ownBlock = vs.ownBlock ∨ v'.ownBlock = some w.heap.size) → K (a.put o.dst v') w') :
    if Region.wanted o (yielded ops a.tmps) = true then Oper.wp P o a w K Q else E := by
  obtain ⟨v', w', r, h1, h2, h3⟩ := hr
  rw [if_pos (by simp [Region.wanted, hgd])]
  exact Lib.wp_append_run w s x t tn ho vs vx hs hx v' w' r (h v' w' h1 h2 h3)

end Go.Proofs.Ytmkchilhnmkhkaa
namespace Go.Proofs.Ytmkchilhnmkhkaa
open Go.RowKit Go.Proofs.Ytmkchilhnmkhkaa.Parts Go.Proofs.Ytmkchilhnmkhkaa.Hexa

theorem infoApT : (Try.prog.info? 9).map (fun i => (i.zero, i.size, i.bytes)) = some (some (.string ⟨#[]⟩), 1, 16) := by kernel_rfl
theorem scells_len (L : List ByteArray) : (scells L).length = L.length := by simp [scells]
theorem appTs (w : World) (ty : TypeId) (B : Nat) (v : Value) (n : Nat) (L : List ByteArray) (hown : w.ownsRow B 9 1 v n (scells L)) (hB : B ≤ w.heap.size) (a : Option Addr) (m c : Nat) (M : List ByteArray) (hs : SrcT w a m M) (hnm : n + m ≤ 100000000) :
    AppE Try.prog #[22, 22] ty #[v, .slice a m c] w B 9 1 (n + m) (scells (L ++ M)) v := by
  obtain ⟨i0, hi, hz0, hz1, hz2⟩ := info_parts infoApT
  rw [show scells (L ++ M) = scells L ++ scells M by simp [scells]]
  cases a with
  | none =>
    have hm0 : m = 0 := by
      rcases Nat.eq_zero_or_pos m with h | h
      · exact h
      · obtain ⟨g, off, e, _⟩ := hs.cell 0 h; cases e
    subst hm0
    have hM : M = [] := List.length_eq_zero_iff.1 hs.len
    subst hM
    exact ⟨v, w, run_append_nothing w B _ ty _ i0 1 Try.underlying22 hi v n c _ hown, by simpa [scells] using hown, ⟨rfl, rfl, rfl, Nat.le_refl _, fun _ _ _ => rfl⟩, .inl rfl⟩
  | some p =>
    obtain ⟨v', w', hr, h2, h3, _, h5⟩ := run_append_own_at (P := Try.prog) w B 22 ty 9 i0 _ 1 16 Try.underlying22 hi hz0 hz1 hz2 rfl (by decide) v n _ hown p m c (scells M) (by rw [scells_len, hs.len]; omega) (by rw [← cellsT_eq]; exact SrcE.news hs (by decide)) (by simp [scells, Value.oneCell']) (by unfold maxLen; omega) (by omega) hB
    exact ⟨v', w', hr, h2, h3, h5⟩
end Go.Proofs.Ytmkchilhnmkhkaa
namespace Go.Proofs.Ytmkchilhnmkhkaa
open Go.RowKit Go.Proofs.Ytmkchilhnmkhkaa.Parts Go.Proofs.Ytmkchilhnmkhkaa.Hexa

set_option maxRecDepth 100000 in
set_option maxHeartbeats 4000000 in
theorem specPathTo_any (p : PartR) (a1 : Option Addr) (c1 : Nat) (a2 : Option Addr) (c2 : Nat) (i : Int) (w : World) (h2 : (celRow cIno p.ino).Rd w (.slice a2 p.ino.length c2)) (hz : szL (cPart.cels p) ≤ 1048576) :
    Calls Try.prog 15 #[.agg #[.int .i64 p.ser, .slice a1 p.st.length c1, .slice a2 p.ino.length c2], .int .i64 i] w (SaysT (pathToB p.ino i) w) := by
  have B0 := Lib.hid (below_bk w (.cells #[.int .i64 p.ser, .slice a1 p.st.length c1, .slice a2 p.ino.length c2] 36))
  have T0 := Lib.hid (Bk.alloc w #[.int .i64 p.ser, .slice a1 p.st.length c1, .slice a2 p.ino.length c2] 36)
  have HS := Lib.hid h2
  have HZ : Hid (szL (cPart.cels p) ≤ 100000000) := Lib.hid (by omega)
  rw [cPart_sz] at hz
  have hn : p.ino.length ≤ 1048576 := by have := sz_row cIno p.ino; omega
  have hzi : szL (celsE cIno p.ino) ≤ 1048576 := by have := sz_row cIno p.ino; omega
  have HY : Hid (∀ k, k < p.ino.length → (p.ino.getD k default).E.length ≤ 100000000) := Lib.hid (fun k hk => by
    have h3 := szL_at cIno p.ino k hk
    rw [cIno_sz] at h3
    have := len_sz cEntry (p.ino.getD k default).E
    omega)
  have HUS := Lib.hid (fun (d : Nat) (j : Int) (h : Way p.ino d j) => ups_size hzi d j h)
  clear h2 hz hzi
  have t2 := T0.out.cell (j := 2) rfl
  by_cases hin : 0 ≤ i ∧ i ≤ (p.ino.length : Int) - 1
  case neg =>
    have HR : Hid (pathToB p.ino i = ⟨#[]⟩) := Lib.hid (by unfold pathToB; rw [if_neg (fun h => hin ⟨h.1, by omega⟩)])
    have HIN := Lib.hid hin
    clear hin
    go_enter Try.func15, Try.ntmps15
    go_wp2_with ((with_reducible refine (range_no _ HIN.out).mono ?_); rintro e w9 ⟨rfl, rfl⟩)
    go_ret
    exact ⟨by rw [HR.out]; rfl, B0.out⟩
  have HIN := Lib.hid hin
  obtain ⟨dz, hdz⟩ : ∃ z, depthZ p.ino i = z := ⟨_, rfl⟩
  have HDZ := Lib.hid hdz
  have T1 := T0
  go_enter Try.func15, Try.ntmps15
  have t0 := T0.out.cell (j := 0) rfl
  have t1 := T0.out.cell (j := 1) rfl
  go_wp2_with (first
    | ((with_reducible refine (range_yes _ HIN.out).mono ?_); rintro e w9 ⟨rfl, rfl⟩)
    | fail)
  refine (specDepth_any p a1 c1 a2 c2 i _ (Cel.Rd.later B0.out _ _ HS.out) HZ.out).mono ?_
  rw [HDZ.out]
  rintro e w1 ⟨rfl, hb⟩
  have HT := Lib.hid (T0.out.later hb)
  have HB : Hid (Below w.heap.size w w1) := Lib.hid (B0.out.trans (hb.mono B0.out.size))
  clear hb T0 T1 B0 t0 t1 t2
  by_cases hneg : dz < 0
  · have HR : Hid (pathToB p.ino i = ⟨#[]⟩) := Lib.hid (by unfold pathToB; rw [if_neg (fun h => by rw [hdz] at h; omega)])
    go_wp2
    go_ret
    exact ⟨by rw [HR.out]; rfl, HB.out⟩
  obtain ⟨d0, hd0, hd1, hway⟩ := depth_way (L := p.ino) (i := i) (by rw [hdz]; omega)
  obtain ⟨R, hRR⟩ : ∃ R, (ups p.ino d0 i).reverse = R := ⟨_, rfl⟩
  have HR : Hid (pathToB p.ino i = joinB R) := Lib.hid (by
    unfold pathToB
    rw [if_pos ⟨hin.1, by omega, by rw [hdz]; omega⟩, hd1, ← hRR]
    rfl)
  have HRM : Hid (∀ j, j < R.length → (R.getD j default).size ≤ 2000000) := Lib.hid (fun j hj => by
    have h9 := HUS.out d0 i hway (R.getD j default) (by
      rw [← List.mem_reverse, hRR]
      simp [List.getD, hj])
    omega)
  have HRL : Hid (R.length = d0) := Lib.hid (by rw [← hRR, List.length_reverse, ups_len])
  have HW : Hid (Way p.ino d0 i) := Lib.hid hway
  have HU : Hid ((ups p.ino d0 i).reverse ++ [] = R) := Lib.hid (by rw [List.append_nil]; exact hRR)
  have hd0' : d0 ≤ 1048576 := by omega
  have hg0 : decide (dz < 0) = false := decide_eq_false hneg
  clear hway hRR hd1 hdz HDZ hin HIN
  go_wp2
  clear hg0
  have P0 : Hid ((w1.alloc (.cells #[] 9)).ownsRow (w.heap.size + 1) 9 1 (.slice (some ⟨w1.heap.size, 0, none⟩) 0 0) ([] : List ByteArray).length (scells [])) := Lib.hid (World.ownsRow_lit w1 #[] 0 HT.out.lt (by decide) rfl)
  have HB1 : Hid (Below w.heap.size w (w1.alloc (.cells #[] 9))) := Lib.hid (HB.out.alloc HB.out.size _)
  have HT1 : Hid (Bk (w1.alloc (.cells #[] 9)) w.heap.size #[.int .i64 p.ser, .slice a1 p.st.length c1, .slice a2 p.ino.length c2] 36) := Lib.hid (HT.out.later ((Below.refl _ _).alloc (Nat.le_refl _) _))
  go_loopg [1, 5] d0 (fun k iv nv wr => ∃ (d : Nat) (z : Int) (A : List ByteArray), d ≤ k ∧ A.length + d = d0 ∧ iv = .int .i64 z ∧ Hid (Way p.ino d z) ∧ Hid ((ups p.ino d z).reverse ++ A = R) ∧ Hid (wr.ownsRow (w.heap.size + 1) 9 1 nv A.length (scells A)) ∧ Hid (Below w.heap.size w wr) ∧ Hid (Bk wr w.heap.size #[.int .i64 p.ser, .slice a1 p.st.length c1, .slice a2 p.ino.length c2] 36))
  case atStart => exact ⟨d0, i, [], Nat.le_refl _, by simp, rfl, HW, HU, P0, HB1, HT1⟩
  case round =>
    clear HW HU P0 HB1 HT1 HB HT
    obtain ⟨d, z, A, hdk, hAd, rfl, HW, HU, HO, HB, HT⟩ := hrel
    have t0 := HT.out.cell (j := 0) rfl
    have t1 := HT.out.cell (j := 1) rfl
    have t2 := HT.out.cell (j := 2) rfl
    obtain ⟨ad, cap, rfl, hcap, hnc, hr⟩ := own_form HO.out
    clear hr
    unfold maxLen at hcap
    cases d with
    | zero =>
      have hz : z = 0 := HW.out
      subst hz
      have HA : Hid (A = R) := Lib.hid (by have := HU.out; rw [ups, List.reverse_nil, List.nil_append] at this; exact this)
      have HSA : Hid (SrcT wr ad A.length R) := Lib.hid (by have := srcT_of_own HO.out; rw [← HA.out]; exact this)
      have HRM2 : Hid (∀ j, j < A.length → (R.getD j default).size ≤ 2000000) := Lib.hid (fun j hj => HRM.out j (by rw [← HA.out]; exact hj))
      go_wp2_with fail
      refine (specJoin_any ad A.length cap R _ HSA.out (by omega) HRM2.out).mono ?_
      rw [← HR.out]
      rintro e w5 ⟨rfl, hb5⟩
      have HB5 : Below w.heap.size w w5 := HB.out.trans (hb5.mono HB.out.size)
      clear hb5 t0 t1 t2
      go_wp2
      go_ret
      exact ⟨rfl, HB5⟩
    | succ d =>
      have hz : ¬ z = 0 := HW.out.1
      obtain ⟨q, hq, hqz, hkd, hhas⟩ := above_has p.ino z HW.out.2.1
      have HW2 : Hid (Way p.ino d (q : Int)) := Lib.hid (by have := HW.out.2.2; rw [hqz] at this; exact this)
      have HU2 : Hid ((ups p.ino d (q : Int)).reverse ++ ([nameIn (p.ino.getD q default).E z] ++ A) = R) := Lib.hid (by
        have h9 := HU.out
        rw [ups, List.reverse_cons, List.append_assoc, hqz] at h9
        unfold nameUp at h9
        rw [hqz] at h9
        exact h9)
      have HQZ := Lib.hid hqz
      clear HW HU hqz
      go_wp2_with fail
      refine (specAbove_any p a1 c1 a2 c2 z _ (Cel.Rd.later HB.out _ _ HS.out) HZ.out).mono ?_
      rw [HQZ.out]
      rintro e w5 ⟨rfl, hb5⟩
      have HB5 : Hid (Below w.heap.size w w5) := Lib.hid (HB.out.trans (hb5.mono HB.out.size))
      have HT5 := Lib.hid (HT.out.later hb5)
      have HO5 := Lib.hid (own_below HO.out hb5)
      clear hb5 t0 t1 t2 HO HB HT
      have t2 := HT5.out.cell (j := 2) rfl
      have hy := HY.out q hq
      obtain ⟨g, off, a4, c4, a5, c5, rfl, hg, e0, e1, e2, e3, e4, e5, r4, r5⟩ := cIno_at (Cel.Rd.later HB5.out _ _ HS.out) q hq
      obtain ⟨x, hx⟩ : ∃ x, p.ino.getD q default = x := ⟨_, rfl⟩
      rw [hx] at e5 r5 hy hhas
      have HX := Lib.hid hx
      have R5 := Lib.hid r5
      have HH := Lib.hid hhas
      clear hx e0 e1 e2 e3 e4 r4 r5 hhas hkd
      go_wp2
      go_loopw [5, 7] (fun nv jv wr => ∃ (j : Nat), j ≤ x.E.length ∧ jv = .int .i64 j ∧ nv = .slice ad A.length cap ∧ Hid (hasI (x.E.take j) z = false) ∧ w5 = wr) (fun _ jv _ => x.E.length - (intOf jv).toNat)
      case atStart => exact ⟨0, Nat.zero_le _, rfl, rfl, Lib.hid rfl, rfl⟩
      case round =>
        obtain ⟨j, hj, rfl, rfl, HM, rfl⟩ := hrel
        by_cases hjt : j < x.E.length
        · obtain ⟨ge, oe, rfl, hge, q0, q1⟩ := cEntry_at R5.out j hjt
          have HN := Lib.hid (hasI_next (i := z) hjt)
          obtain ⟨ev, hev⟩ : ∃ e, x.E.getD j default = e := ⟨_, rfl⟩
          rw [hev] at q0 q1 HN
          have HEV := Lib.hid hev
          clear hev
          by_cases hqe : ev.f0 = z
          · have HNm : Hid (nameIn (p.ino.getD q default).E z = ev.f1) := Lib.hid (by rw [HX.out, nameIn_at hjt HM.out (by rw [HEV.out]; exact hqe), HEV.out])
            have L1 : Hid ((w5.alloc (.cells #[.string ev.f1] 9)).ownsRow (w.heap.size + 1) 9 1 (.slice (some ⟨w5.heap.size, 0, none⟩) 1 1) 1 (scells [ev.f1])) := Lib.hid (World.ownsRow_lit w5 #[.string ev.f1] 1 HT5.out.lt (by decide) rfl)
            have HBA : Hid (Below w.heap.size w (w5.alloc (.cells #[.string ev.f1] 9))) := Lib.hid (HB5.out.alloc HB5.out.size _)
            have HSA : Hid (SrcT (w5.alloc (.cells #[.string ev.f1] 9)) ad A.length A) := Lib.hid (srcT_of_own (own_below HO5.out ((Below.refl _ _).alloc (Nat.le_refl _) _)))
            have HTA := Lib.hid (HT5.out.later ((Below.refl _ _).alloc (Nat.le_refl _) (.cells #[.string ev.f1] 9)))
            have hr : AppE Try.prog #[22, 22] 22 #[.slice (some ⟨w5.heap.size, 0, none⟩) 1 1, .slice ad A.length cap] (w5.alloc (.cells #[.string ev.f1] 9)) (w.heap.size + 1) 9 1 (1 + A.length) (scells ([ev.f1] ++ A)) (.slice (some ⟨w5.heap.size, 0, none⟩) 1 1) :=
              appTs _ _ _ _ 1 [ev.f1] L1.out (by have := HT5.out.lt; simp; omega) ad A.length cap A HSA.out (by omega)
            subst hqe
            go_wp2_with (at_builtin; refine wpList_appE rfl _ _ _ _ rfl _ _ rfl rfl hr ?_; clear hr; intro v' w6 h1 h2 h3)
            have HB6 : Hid (Below w.heap.size w w6) := Lib.hid (HBA.out.grown h2 (by have := HT5.out.lt; simp; omega) (fun k hk => by cases hk; exact HB5.out.size))
            have HT6 := Lib.hid (HTA.out.grown h2 (fun e => by have h9 : w5.heap.size = w.heap.size := Option.some.inj e; have := HT5.out.lt; omega))
            have HO6 : Hid (w6.ownsRow (w.heap.size + 1) 9 1 v' ([ev.f1] ++ A).length (scells ([ev.f1] ++ A))) := Lib.hid (by rw [List.length_append]; exact h1)
            have HU3 : Hid ((ups p.ino d (q : Int)).reverse ++ ([ev.f1] ++ A) = R) := Lib.hid (by rw [← HNm.out]; exact HU2.out)
            clear h1 h2 h3
            go_wp2
            go_roundg d
            case measure => omega
            case rel => exact ⟨d, (q : Int), [ev.f1] ++ A, Nat.le_refl _, by rw [List.length_append]; simp; omega, rfl, HW2, HU3, HO6, HB6, HT6⟩
          · have HC : Hid (hasI (x.E.take (j + 1)) z = false) := Lib.hid (by rw [HN.out, HM.out]; simpa using hqe)
            go_wp2
            go_roundw
            case rel => exact ⟨j + 1, by omega, by go_num, rfl, HC, by first | rfl | trivial⟩
            case measure => (simp [intOf]; try omega)
        · exfalso
          have h9 := HM.out
          rw [List.take_of_length_le (by omega), HH.out] at h9
          cases h9
end Go.Proofs.Ytmkchilhnmkhkaa
namespace Go.Proofs.Ytmkchilhnmkhkaa
open Go.RowKit Go.Proofs.Ytmkchilhnmkhkaa.Parts Go.Proofs.Ytmkchilhnmkhkaa.Hexa

/-- What linkTo tells. -/
def SaysLink (L : List InoR) (i : Int) (w : World) (e : Ending) (w' : World) : Prop :=
  ((aboveZ L i = -1 ∧ e = .returned (.tuple #[.int .i64 0, .string ⟨#[]⟩, .bool false])) ∨ ∃ q : Nat, q < L.length ∧ aboveZ L i = (q : Int) ∧ e = .returned (.tuple #[.int .i64 q, .string (nameIn (L.getD q default).E i), .bool true])) ∧ Below w.heap.size w w'
set_option maxRecDepth 100000 in
set_option maxHeartbeats 2000000 in
theorem implLink_any (p : PartR) (a1 : Option Addr) (c1 : Nat) (a2 : Option Addr) (c2 : Nat) (i : Int) (w : World) (h2 : (celRow cIno p.ino).Rd w (.slice a2 p.ino.length c2)) (hz : szL (cPart.cels p) ≤ 100000000) :
    Calls Try.prog 45 #[.agg #[.int .i64 p.ser, .slice a1 p.st.length c1, .slice a2 p.ino.length c2], .int .i64 i] w (SaysLink p.ino i w) := by
  have B0 := Lib.hid (below_bk w (.cells #[.int .i64 p.ser, .slice a1 p.st.length c1, .slice a2 p.ino.length c2] 36))
  have T0 := Lib.hid (Bk.alloc w #[.int .i64 p.ser, .slice a1 p.st.length c1, .slice a2 p.ino.length c2] 36)
  have HS := Lib.hid h2
  rw [cPart_sz] at hz
  have hn : p.ino.length ≤ 100000000 := by have := sz_row cIno p.ino; omega
  have HY : Hid (∀ k, k < p.ino.length → (p.ino.getD k default).E.length ≤ 100000000) := Lib.hid (fun k hk => by
    have h3 := szL_at cIno p.ino k hk
    rw [cIno_sz] at h3
    have := len_sz cEntry (p.ino.getD k default).E
    have := sz_row cIno p.ino
    omega)
  clear h2 hz
  have t2 := T0.out.cell (j := 2) rfl
  go_enter Try.func45, Try.ntmps45
  go_wp2
  clear t2
  go_loopw [14] (fun kv wr => ∃ (k : Nat), k ≤ p.ino.length ∧ kv = .int .i64 k ∧ Hid (∀ j, j < k → hasI (dirE (p.ino.getD j default)) i = false) ∧ Hid (Below w.heap.size w wr)) (fun kv _ => p.ino.length - (intOf kv).toNat)
  case atStart => exact ⟨0, Nat.zero_le _, rfl, Lib.hid (fun j hj => by omega), B0⟩
  case round =>
    clear B0 T0
    obtain ⟨k, hk, rfl, HM, HB0⟩ := hrel
    by_cases hlt : k < p.ino.length
    · have hy := HY.out k hlt
      have HA : Hid (hasI (dirE (p.ino.getD k default)) i = true → aboveZ p.ino i = (k : Int)) := Lib.hid (fun h => above_some hlt HM.out h)
      have HB : Hid (hasI (dirE (p.ino.getD k default)) i = false → ∀ j, j < k + 1 → hasI (dirE (p.ino.getD j default)) i = false) := Lib.hid (fun h j hj => by
        by_cases e : j = k
        · rw [e]; exact h
        · exact HM.out j (by omega))
      obtain ⟨g, off, a4, c4, a5, c5, rfl, hg, d0, d1, d2, d3, d4, d5, r4, r5⟩ := cIno_at (Cel.Rd.later HB0.out _ _ HS.out) k hlt
      obtain ⟨x, hx⟩ : ∃ x, p.ino.getD k default = x := ⟨_, rfl⟩
      rw [hx] at d0 d1 d2 d3 d4 d5 r5 hy HA HB
      have HX := Lib.hid hx
      obtain ⟨kd, hkd0⟩ : ∃ y, x.kd = y := ⟨_, rfl⟩
      rw [hkd0] at d0
      have HK0 := Lib.hid hkd0
      clear hkd0 hx r4
      have hbx := below_bk wr (.cells #[.int .i64 kd, .int .i64 x.sz, .int .i64 x.gn, .string x.key, .slice a4 x.R.length c4, .slice a5 x.E.length c5] 57)
      have T2 := Lib.hid (Bk.alloc wr #[.int .i64 kd, .int .i64 x.sz, .int .i64 x.gn, .string x.key, .slice a4 x.R.length c4, .slice a5 x.E.length c5] 57)
      have R5 := Lib.hid (Cel.Rd.later hbx _ _ r5)
      have B2 : Hid (Below w.heap.size w (wr.alloc (.cells #[.int .i64 kd, .int .i64 x.sz, .int .i64 x.gn, .string x.key, .slice a4 x.R.length c4, .slice a5 x.E.length c5] 57))) := Lib.hid (HB0.out.trans (hbx.mono HB0.out.size))
      clear hbx r5
      have t0 := T2.out.cell (j := 0) rfl
      have t5 := T2.out.cell (j := 5) rfl
      by_cases hkd : kd = 2
      · subst hkd
        have HD : Hid (dirE x = x.E) := Lib.hid (dirE_yes HK0.out)
        go_wp2
        clear t0 t5 d0 d1 d2 d3 d4 d5
        obtain ⟨W2, hW2⟩ : ∃ y, y = wr.alloc (.cells #[.int .i64 2, .int .i64 x.sz, .int .i64 x.gn, .string x.key, .slice a4 x.R.length c4, .slice a5 x.E.length c5] 57) := ⟨_, rfl⟩
        rw [← hW2] at B2 R5 ⊢
        clear hW2 T2
        go_loopw [25] (fun jv wq => ∃ (j : Nat), j ≤ x.E.length ∧ jv = .int .i64 j ∧ Hid (hasI (x.E.take j) i = false) ∧ Hid (Below w.heap.size w wq) ∧ Hid (Below W2.heap.size W2 wq)) (fun jv _ => x.E.length - (intOf jv).toNat)
        case atStart => exact ⟨0, Nat.zero_le _, rfl, Lib.hid rfl, B2, Lib.hid (Below.refl _ _)⟩
        case round =>
          clear HM HB0 B2
          obtain ⟨j, hj, rfl, HM', HB1, HB2⟩ := hrel
          by_cases hjt : j < x.E.length
          · obtain ⟨ge, oe, rfl, hge, q0, q1⟩ := cEntry_at (Cel.Rd.later HB2.out _ _ R5.out) j hjt
            have HN := Lib.hid (hasI_next (i := i) hjt)
            obtain ⟨ev, hev⟩ : ∃ e, x.E.getD j default = e := ⟨_, rfl⟩
            rw [hev] at q0 q1 HN
            have HEV := Lib.hid hev
            clear hev
            have HB3 : Hid (Below w.heap.size w (wr.alloc (.cells #[.int .i64 ev.f0, .string ev.f1] 45))) := Lib.hid (HB1.out.alloc HB1.out.size _)
            have HB4 : Hid (Below W2.heap.size W2 (wr.alloc (.cells #[.int .i64 ev.f0, .string ev.f1] 45))) := Lib.hid (HB2.out.alloc HB2.out.size _)
            by_cases hq : ev.f0 = i
            · have HC : Hid (aboveZ p.ino i = (k : Int)) := Lib.hid (HA.out (by rw [HD.out]; exact hasI_take (j := j + 1) (by rw [HN.out, hq]; simp)))
              have HNm : Hid (nameIn (p.ino.getD k default).E i = ev.f1) := Lib.hid (by rw [HX.out, nameIn_at hjt HM'.out (by rw [HEV.out]; exact hq), HEV.out])
              subst hq
              go_wp2
              go_region
              all_goals
                go_wp2
                refine bodyPost_ret (v := .tuple #[.int .i64 k, .string ev.f1, .bool true]) ?_ rfl ⟨.inr ⟨k, hlt, HC.out, by rw [HNm.out]⟩, by first | exact HB3.out | exact HB3.out.drew⟩
                simp [results, Try.results45, go_sem]
            · have HC : Hid (hasI (x.E.take (j + 1)) i = false) := Lib.hid (by rw [HN.out, HM'.out]; simpa using hq)
              go_wp2
              go_roundw
              case rel => exact ⟨j + 1, by omega, by go_num, HC, HB3, HB4⟩
              case measure => (simp [intOf]; try omega)
          · obtain rfl : j = x.E.length := by omega
            have HC := Lib.hid (HB.out (by have h9 := HM'.out; rw [List.take_length] at h9; rw [HD.out]; exact h9))
            go_wp2
            go_roundw
            case rel => exact ⟨k + 1, by omega, by go_num, HC, HB1⟩
            case measure => (simp [intOf]; try omega)
      · have HC := Lib.hid (HB.out (by rw [dirE_no (by rw [HK0.out]; exact hkd)]; rfl))
        go_wp2
        go_roundw
        case rel => exact ⟨k + 1, by omega, by go_num, HC, B2⟩
        case measure => (simp [intOf]; try omega)
    · obtain rfl : k = p.ino.length := by omega
      have HC := Lib.hid (above_none HM.out)
      go_wp2
      refine bodyPost_ret (v := .tuple #[.int .i64 0, .string ⟨#[]⟩, .bool false]) ?_ rfl ⟨.inl ⟨HC.out, rfl⟩, HB0.out⟩
      simp [results, Try.results45, go_sem]

set_option maxRecDepth 100000 in
set_option maxHeartbeats 2000000 in
theorem implDepth_any (p : PartR) (a1 : Option Addr) (c1 : Nat) (a2 : Option Addr) (c2 : Nat) (i : Int) (w : World) (h2 : (celRow cIno p.ino).Rd w (.slice a2 p.ino.length c2)) (hz : szL (cPart.cels p) ≤ 100000000) :
    Calls Try.prog 44 #[.agg #[.int .i64 p.ser, .slice a1 p.st.length c1, .slice a2 p.ino.length c2], .int .i64 i] w (SaysI (depthZ p.ino i) w) := by
  have B0 := Lib.hid (below_bk w (.cells #[.int .i64 p.ser, .slice a1 p.st.length c1, .slice a2 p.ino.length c2] 36))
  have T0 := Lib.hid (Bk.alloc w #[.int .i64 p.ser, .slice a1 p.st.length c1, .slice a2 p.ino.length c2] 36)
  have HS := Lib.hid h2
  have HZ := Lib.hid hz
  rw [cPart_sz] at hz
  have hn : p.ino.length ≤ 100000000 := by have := sz_row cIno p.ino; omega
  clear h2 hz
  obtain ⟨d, hd⟩ : ∃ d, depthZ p.ino i = d := ⟨_, rfl⟩
  rw [hd]
  have HD : Hid (depthGo p.ino (p.ino.length + 1) 0 i = d) := Lib.hid hd
  clear hd
  have t2 := T0.out.cell (j := 2) rfl
  go_enter Try.func44, Try.ntmps44
  go_wp2
  clear t2
  go_loopw [1, 13] (fun iv nv wr => ∃ (n : Nat) (z : Int), n ≤ p.ino.length + 1 ∧ nv = .int .i64 n ∧ iv = .int .i64 z ∧ Hid (depthGo p.ino (p.ino.length + 1 - n) n z = d) ∧ Below w.heap.size w wr ∧ Hid (Bk wr w.heap.size #[.int .i64 p.ser, .slice a1 p.st.length c1, .slice a2 p.ino.length c2] 36)) (fun _ nv _ => p.ino.length + 1 - (intOf nv).toNat)
  case atStart => exact ⟨0, i, Nat.zero_le _, rfl, rfl, HD, B0.out, T0⟩
  case round =>
    clear HD T0
    obtain ⟨n, z, hnn, rfl, rfl, HG, hbel, HT⟩ := hrel
    have t0 := HT.out.cell (j := 0) rfl
    have t1 := HT.out.cell (j := 1) rfl
    have t2 := HT.out.cell (j := 2) rfl
    by_cases hlt : n < p.ino.length + 1
    · have hd0 : decide ((n : Int) < (p.ino.length : Int) + 1) = true := decide_eq_true (by omega)
      have HG2 : Hid ((if z = 0 then (n : Int) else if aboveZ p.ino z < 0 then -1 else depthGo p.ino (p.ino.length + 1 - (n + 1)) (n + 1) (aboveZ p.ino z)) = d) := Lib.hid (by
        have h9 := HG.out
        rw [show p.ino.length + 1 - n = (p.ino.length + 1 - (n + 1)) + 1 by omega, depthGo] at h9
        exact h9)
      clear HG
      by_cases hz0 : z = 0
      · have HE : Hid ((n : Int) = d) := Lib.hid (by have h9 := HG2.out; rw [if_pos hz0] at h9; exact h9)
        subst hz0
        go_wp2
        go_ret
        exact ⟨ret_i64m HE.out, hbel⟩
      · go_wp2_with fail
        refine (implLink_any p a1 c1 a2 c2 z _ (Cel.Rd.later hbel _ _ HS.out) HZ.out).mono ?_
        rintro e w1 ⟨⟨hq, rfl⟩ | ⟨q, hql, hq, rfl⟩, hb⟩
        · have hb2 : Below w.heap.size w w1 := hbel.trans (hb.mono hbel.size)
          have HE : Hid (-1 = d) := Lib.hid (by have h9 := HG2.out; rw [if_neg hz0, hq, if_pos (by omega)] at h9; exact h9)
          clear hb hq t0 t1 t2
          go_wp2
          go_ret
          exact ⟨ret_i64m HE.out, hb2⟩
        · have hb2 : Below w.heap.size w w1 := hbel.trans (hb.mono hbel.size)
          have HT1 := Lib.hid (HT.out.later hb)
          have HE : Hid (depthGo p.ino (p.ino.length + 1 - (n + 1)) (n + 1) (q : Int) = d) := Lib.hid (by have h9 := HG2.out; rw [if_neg hz0, hq, if_neg (by omega)] at h9; exact h9)
          clear hb hq t0 t1 t2
          go_wp2
          go_roundw
          case rel => exact ⟨n + 1, (q : Int), by omega, by go_num, rfl, HE, hb2, HT1⟩
          case measure => (simp [intOf]; try omega)
    · obtain rfl : n = p.ino.length + 1 := by omega
      have HE : Hid (-1 = d) := Lib.hid (by have h9 := HG.out; rw [Nat.sub_self] at h9; exact h9)
      go_wp2
      go_ret
      exact ⟨ret_i64m HE.out, hbel⟩
end Go.Proofs.Ytmkchilhnmkhkaa
namespace Go.Proofs.Ytmkchilhnmkhkaa
open Go.RowKit Go.Proofs.Ytmkchilhnmkhkaa.Parts Go.Proofs.Ytmkchilhnmkhkaa.Hexa

theorem own_setCells {B e : Nat} {g n cap : Nat} : ∀ (vs : List Value) (o : Nat) (w : World) (xs : List Value), w.ownsRow B e 1 (.slice (some ⟨g, 0, none⟩) n cap) n xs → xs.length = n → o + vs.length = n →
    (w.setCells g o vs).ownsRow B e 1 (.slice (some ⟨g, 0, none⟩) n cap) n (xs.take o ++ vs)
  | [], o, w, xs, h, hx, ho => by
    simp only [List.length_nil, Nat.add_zero] at ho
    rw [List.append_nil, List.take_of_length_le (by omega)]
    exact h
  | u :: r, o, w, xs, h, hx, ho => by
    simp only [List.length_cons] at ho
    have h1 := (h.stored o u).1
    have h2 := own_setCells r (o + 1) _ _ h1 (by rw [List.length_set]; exact hx) (by omega)
    have e9 : (xs.set o u).take (o + 1) ++ r = xs.take o ++ u :: r := by
      rw [List.take_succ_eq_append_getElem (by rw [List.length_set]; omega), List.getElem_set_self, List.take_set, List.set_eq_of_length_le (by rw [List.length_take]; omega), List.append_assoc]
      rfl
    rw [e9] at h2
    exact h2
theorem below_setCells {B : Nat} {a : World} (g : Nat) (hg : B ≤ g) : ∀ (vs : List Value) (o : Nat) (w : World), Below B a w → Below B a (w.setCells g o vs)
  | [], _, _, h => h
  | u :: r, o, _, h => below_setCells g hg r (o + 1) _ (h.setCell (p := ⟨g, o, none⟩) hg u)
theorem below_drawsR {B : Nat} {a w : World} (h : Below B a w) (m : Nat) : Below B a (w.drewN m) := ⟨h.os, h.tape, h.output, h.size, h.block⟩
set_option maxRecDepth 100000 in
set_option maxHeartbeats 1000000 in
theorem implRev_any (B : Nat) (v : Value) (n : Nat) (L : List ByteArray) (w : World) (hown : w.ownsRow B 9 1 v n (scells L)) (hl : L.length = n) (hn : n ≤ 100000000) :
    Calls Try.prog 46 #[v] w fun e w' => e = .returned (.tuple #[]) ∧ w'.ownsRow B 9 1 v n (scells L.reverse) ∧ Below B w w' := by
  rcases hown.2 with ⟨rfl, rfl⟩ | ⟨g, cap, cur, rfl, hg, _⟩
  · have hL : L = [] := List.length_eq_zero_iff.1 hl
    subst hL
    refine (Try.slices_Reverse_string_empty none 0 w).mono ?_
    rintro e w' ⟨he, hw⟩
    subst hw
    exact ⟨he, hown, Below.refl _ _⟩
  · subst hl
    refine (Try.slices_Reverse_string_cells g 0 L.length cap (fun i => L.getD i default) w (by omega) (fun i hi => ?_) (fun j _ => ?_)).mono ?_
    · rw [Nat.zero_add, hown.cellAt i (by omega)]
      simp [scells, List.getD, hi]
    · exact hown.frozenAt _
    · rintro e w' ⟨he, q, hw⟩
      subst hw
      have e1 : (Lib.strsOf (fun i => L.getD i default) L.length).reverse.map encStr = scells L.reverse := by
        have e2 : Lib.strsOf (fun i => L.getD i default) L.length = L.map (·.data.toList) := by
          unfold Lib.strsOf
          apply List.ext_getElem (by simp)
          intro i h1 h2
          simp at h1
          simp [List.getD, h1]
        rw [e2, ← List.map_reverse, List.map_map]
        unfold scells
        refine List.map_congr_left (fun x _ => ?_)
        obtain ⟨⟨x⟩⟩ := x
        rfl
      rw [e1]
      have h0 : (w.drewN q).ownsRow B 9 1 (.slice (some ⟨g, 0, none⟩) L.length cap) L.length (scells L) := hown
      have h1 := own_setCells (scells L.reverse) 0 _ _ h0 (by simp [scells]) (by simp [scells])
      rw [List.take_zero, List.nil_append] at h1
      exact ⟨he, h1, below_setCells g hg _ _ _ (below_drawsR (Below.refl _ _) q)⟩
end Go.Proofs.Ytmkchilhnmkhkaa
namespace Go.Proofs.Ytmkchilhnmkhkaa
open Go.RowKit

set_option maxRecDepth 100000 in
set_option maxHeartbeats 400000 in
theorem implIdx_any (n b : Int) (w : World) : Calls Try.prog 43 #[.int .i64 n, .int .i64 b] w fun e w' => e = .returned (.bool (decide (0 ≤ n ∧ n < b))) ∧ w' = w := by
  by_cases h1 : 0 ≤ n <;> by_cases h2 : n < b
  all_goals
    go_enter Try.func43, Try.ntmps43
    go_wp2
    all_goals go_ret
    all_goals exact ⟨by simp [h1, h2], rfl⟩
theorem implIdx_yes {n b : Int} (w : World) (h : 0 ≤ n ∧ n < b) : Calls Try.prog 43 #[.int .i64 n, .int .i64 b] w fun e w' => e = .returned (.bool true) ∧ w' = w :=
  (implIdx_any n b w).mono fun _ _ ⟨he, hw⟩ => ⟨by rw [he, decide_eq_true h], hw⟩
theorem implIdx_no {n b : Int} (w : World) (h : ¬ (0 ≤ n ∧ n < b)) : Calls Try.prog 43 #[.int .i64 n, .int .i64 b] w fun e w' => e = .returned (.bool false) ∧ w' = w :=
  (implIdx_any n b w).mono fun _ _ ⟨he, hw⟩ => ⟨by rw [he, decide_eq_false h], hw⟩
end Go.Proofs.Ytmkchilhnmkhkaa
namespace Go.Proofs.Ytmkchilhnmkhkaa
open Go.RowKit Go.Proofs.Ytmkchilhnmkhkaa.Parts Go.Proofs.Ytmkchilhnmkhkaa.Hexa

set_option maxRecDepth 100000 in
set_option maxHeartbeats 4000000 in
theorem implPathTo_any (p : PartR) (a1 : Option Addr) (c1 : Nat) (a2 : Option Addr) (c2 : Nat) (i : Int) (w : World) (h2 : (celRow cIno p.ino).Rd w (.slice a2 p.ino.length c2)) (hz : szL (cPart.cels p) ≤ 1048576) :
    Calls Try.prog 17 #[.agg #[.int .i64 p.ser, .slice a1 p.st.length c1, .slice a2 p.ino.length c2], .int .i64 i] w (SaysT (pathToB p.ino i) w) := by
  have B0 := Lib.hid (below_bk w (.cells #[.int .i64 p.ser, .slice a1 p.st.length c1, .slice a2 p.ino.length c2] 36))
  have T0 := Lib.hid (Bk.alloc w #[.int .i64 p.ser, .slice a1 p.st.length c1, .slice a2 p.ino.length c2] 36)
  have HS := Lib.hid h2
  have HZ : Hid (szL (cPart.cels p) ≤ 100000000) := Lib.hid (by omega)
  rw [cPart_sz] at hz
  have hn : p.ino.length ≤ 1048576 := by have := sz_row cIno p.ino; omega
  have hzi : szL (celsE cIno p.ino) ≤ 1048576 := by have := sz_row cIno p.ino; omega
  have HUS := Lib.hid (fun (d : Nat) (j : Int) (h : Way p.ino d j) => ups_size hzi d j h)
  clear h2 hz hzi
  have t2 := T0.out.cell (j := 2) rfl
  by_cases hin : 0 ≤ i ∧ i < (p.ino.length : Int)
  case neg =>
    have HR : Hid (pathToB p.ino i = ⟨#[]⟩) := Lib.hid (by unfold pathToB; rw [if_neg (fun h => hin ⟨h.1, h.2.1⟩)])
    have HIN := Lib.hid hin
    clear hin
    go_enter Try.func17, Try.ntmps17
    go_wp2_with ((with_reducible refine (implIdx_no _ HIN.out).mono ?_); rintro e w9 ⟨rfl, rfl⟩)
    go_ret
    exact ⟨by rw [HR.out]; rfl, B0.out⟩
  have HIN := Lib.hid hin
  obtain ⟨dz, hdz⟩ : ∃ z, depthZ p.ino i = z := ⟨_, rfl⟩
  have HDZ := Lib.hid hdz
  have t0 := T0.out.cell (j := 0) rfl
  have t1 := T0.out.cell (j := 1) rfl
  go_enter Try.func17, Try.ntmps17
  go_wp2_with (first
    | ((with_reducible refine (implIdx_yes _ HIN.out).mono ?_); rintro e w9 ⟨rfl, rfl⟩)
    | fail)
  refine (implDepth_any p a1 c1 a2 c2 i _ (Cel.Rd.later B0.out _ _ HS.out) HZ.out).mono ?_
  rw [HDZ.out]
  rintro e w1 ⟨rfl, hb⟩
  have HT := Lib.hid (T0.out.later hb)
  have HB : Hid (Below w.heap.size w w1) := Lib.hid (B0.out.trans (hb.mono B0.out.size))
  clear hb T0 B0 t0 t1 t2
  by_cases hneg : dz < 0
  · have hm1 : dz = -1 := by
      rw [← hdz]
      rcases depth_cases p.ino i with h | h
      · exact h
      · rw [hdz] at h; omega
    have HR : Hid (pathToB p.ino i = ⟨#[]⟩) := Lib.hid (by unfold pathToB; rw [if_neg (fun h => by rw [hdz] at h; omega)])
    subst hm1
    go_wp2
    go_ret
    exact ⟨by rw [HR.out]; rfl, HB.out⟩
  obtain ⟨d0, hd0, hd1, hway⟩ := depth_way (L := p.ino) (i := i) (by rw [hdz]; omega)
  obtain ⟨R, hRR⟩ : ∃ R, ups p.ino d0 i = R := ⟨_, rfl⟩
  have HR : Hid (pathToB p.ino i = joinB R.reverse) := Lib.hid (by
    unfold pathToB
    rw [if_pos ⟨hin.1, hin.2, by rw [hdz]; omega⟩, hd1, ← hRR]
    rfl)
  have HRM : Hid (∀ j, j < R.reverse.length → (R.reverse.getD j default).size ≤ 2000000) := Lib.hid (fun j hj => by
    have h9 := HUS.out d0 i hway (R.reverse.getD j default) (by
      rw [hRR, ← List.mem_reverse]
      simp only [List.getD, hj, List.getElem?_eq_getElem, Option.getD_some]
      exact List.getElem_mem hj)
    omega)
  have HRL : Hid (R.length = d0) := Lib.hid (by rw [← hRR, ups_len])
  have HW : Hid (Way p.ino d0 i) := Lib.hid hway
  have HU : Hid ([] ++ ups p.ino d0 i = R) := Lib.hid (by rw [List.nil_append]; exact hRR)
  have hd0' : d0 ≤ 1048576 := by omega
  have hg0 : (dz == -1) = false := beq_eq_false_iff_ne.2 (by omega)
  have hg1 : ¬ dz = -1 := by omega
  clear hway hRR hd1 hdz HDZ hin HIN
  go_wp2
  clear hg0 hg1
  have P0 : Hid (w1.ownsRow (w.heap.size + 1) 9 1 (.slice none 0 0) ([] : List ByteArray).length (scells [])) := Lib.hid (World.ownsRow_nil _ _ _ _)
  go_loopg [1, 5] d0 (fun k iv nv wr => ∃ (d : Nat) (z : Int) (A : List ByteArray), d ≤ k ∧ A.length + d = d0 ∧ iv = .int .i64 z ∧ Hid (Way p.ino d z) ∧ Hid (A ++ ups p.ino d z = R) ∧ Hid (wr.ownsRow (w.heap.size + 1) 9 1 nv A.length (scells A)) ∧ Hid (Below w.heap.size w wr) ∧ Hid (Bk wr w.heap.size #[.int .i64 p.ser, .slice a1 p.st.length c1, .slice a2 p.ino.length c2] 36))
  case atStart => exact ⟨d0, i, [], Nat.le_refl _, by simp, rfl, HW, HU, P0, HB, HT⟩
  case round =>
    clear HW HU P0 HB HT
    obtain ⟨d, z, A, hdk, hAd, rfl, HW, HU, HO, HB, HT⟩ := hrel
    have t0 := HT.out.cell (j := 0) rfl
    have t1 := HT.out.cell (j := 1) rfl
    have t2 := HT.out.cell (j := 2) rfl
    cases d with
    | zero =>
      have hz : z = 0 := HW.out
      subst hz
      have HA : Hid (A = R) := Lib.hid (by have := HU.out; rw [ups, List.append_nil] at this; exact this)
      have HRM2 : Hid (∀ j, j < A.length → (R.reverse.getD j default).size ≤ 2000000) := Lib.hid (fun j hj => HRM.out j (by rw [List.length_reverse, ← HA.out]; exact hj))
      go_wp2_with fail
      refine (implRev_any (w.heap.size + 1) u5 A.length A wr HO.out rfl (by omega)).mono ?_
      rintro e w5 ⟨rfl, ho5, hb5⟩
      obtain ⟨ad, cap, rfl, hcap, hnc, hr⟩ := own_form ho5
      have HSA : Hid (SrcT w5 ad A.length R.reverse) := Lib.hid (by have := srcT_of_own ho5; rw [HA.out] at this ⊢; exact this)
      have HB5 : Hid (Below w.heap.size w w5) := Lib.hid (HB.out.trans (hb5.mono (Nat.le_succ _)))
      unfold maxLen at hcap
      clear ho5 hb5 hr t0 t1 t2
      go_wp2_with fail
      refine (implJoin_any ad A.length cap R.reverse _ HSA.out (by omega) hnc HRM2.out).mono ?_
      rw [← HR.out]
      rintro e w6 ⟨rfl, hb6⟩
      have HB6 : Below w.heap.size w w6 := HB5.out.trans (hb6.mono HB5.out.size)
      clear hb6
      go_wp2
      go_ret
      exact ⟨rfl, HB6⟩
    | succ d =>
      have hz : ¬ z = 0 := HW.out.1
      obtain ⟨q, hq, hqz, hkd, hhas⟩ := above_has p.ino z HW.out.2.1
      have HW2 : Hid (Way p.ino d (q : Int)) := Lib.hid (by have := HW.out.2.2; rw [hqz] at this; exact this)
      have HU2 : Hid ((A ++ [nameIn (p.ino.getD q default).E z]) ++ ups p.ino d (q : Int) = R) := Lib.hid (by
        have h9 := HU.out
        rw [ups, hqz] at h9
        unfold nameUp at h9
        rw [hqz] at h9
        rw [List.append_assoc]
        exact h9)
      have HQZ := Lib.hid hqz
      clear HW HU hqz hkd hhas
      go_wp2_with fail
      refine (implLink_any p a1 c1 a2 c2 z _ (Cel.Rd.later HB.out _ _ HS.out) HZ.out).mono ?_
      rintro e w5 ⟨⟨h9, _⟩ | ⟨q', hq', h9, rfl⟩, hb5⟩
      · rw [HQZ.out] at h9; omega
      obtain rfl : q' = q := by rw [HQZ.out] at h9; omega
      obtain ⟨nm, hnm⟩ : ∃ y, nameIn (p.ino.getD q' default).E z = y := ⟨_, rfl⟩
      rw [hnm] at HU2
      rw [hnm]
      have HB5 : Hid (Below w.heap.size w w5) := Lib.hid (HB.out.trans (hb5.mono HB.out.size))
      have HT5 := Lib.hid (HT.out.later hb5)
      have HO5 := Lib.hid (own_below HO.out hb5)
      clear hb5 t0 t1 t2 HO HB HT h9 hnm hq'
      have HOA : Hid ((w5.alloc (.cells #[.string nm] 9)).ownsRow (w.heap.size + 1) 9 1 u5 A.length (scells A)) := Lib.hid (own_below HO5.out ((Below.refl _ _).alloc (Nat.le_refl _) _))
      have HBA : Hid (Below w.heap.size w (w5.alloc (.cells #[.string nm] 9))) := Lib.hid (HB5.out.alloc HB5.out.size _)
      have HTA := Lib.hid (HT5.out.later ((Below.refl _ _).alloc (Nat.le_refl _) (.cells #[.string nm] 9)))
      have HSA : Hid (SrcT (w5.alloc (.cells #[.string nm] 9)) (some ⟨w5.heap.size, 0, none⟩) 1 [nm]) := Lib.hid (srcT_of_own (B := w5.heap.size) (e := 9) (cap := 1) (World.ownsRow_lit w5 #[.string nm] 1 (Nat.le_refl _) (by decide) rfl))
      have hr : AppE Try.prog #[22, 22] 22 #[u5, .slice (some ⟨w5.heap.size, 0, none⟩) 1 1] (w5.alloc (.cells #[.string nm] 9)) (w.heap.size + 1) 9 1 (A.length + 1) (scells (A ++ [nm])) u5 :=
        appTs _ _ _ _ A.length A HOA.out (by have := HT5.out.lt; simp; omega) _ 1 1 [nm] HSA.out (by omega)
      go_wp2_with (at_builtin; refine wpList_appE rfl _ _ _ _ rfl _ _ rfl rfl hr ?_; clear hr; intro v' w6 h1 h2 h3)
      have HB6 : Hid (Below w.heap.size w w6) := Lib.hid (HBA.out.grown h2 (by have := HT5.out.lt; simp; omega) (fun k hk => Nat.le_of_succ_le (own_block_ge HOA.out k hk)))
      have HT6 := Lib.hid (HTA.out.grown h2 (fun e => by have h9 := own_block_ge HOA.out _ e; omega))
      have HO6 : Hid (w6.ownsRow (w.heap.size + 1) 9 1 v' (A ++ [nm]).length (scells (A ++ [nm]))) := Lib.hid (by rw [List.length_append]; exact h1)
      clear h1 h2 h3
      go_wp2
      go_roundg d
      case measure => omega
      case rel => exact ⟨d, (q' : Int), A ++ [nm], Nat.le_refl _, by rw [List.length_append]; simp; omega, rfl, HW2, HU2, HO6, HB6, HT6⟩
end Go.Proofs.Ytmkchilhnmkhkaa
namespace Go.Proofs.Ytmkchilhnmkhkaa
open Go.RowKit Go.Proofs.Ytmkchilhnmkhkaa.Parts Go.Proofs.Ytmkchilhnmkhkaa.Hexa Go.Proofs.Ytmkchilhnmkhkaa.Byt

set_option maxRecDepth 100000 in
set_option maxHeartbeats 4000000 in
theorem pathTo_law (p : PartR) (a1_p : Option Addr) (c1_p : Nat) (a2_p : Option Addr) (c2_p : Nat) (q : Int) (w : World) (ht_p : TyL (cPart.cels p)) (h1_p : (celRow cInt p.st).Rd w (.slice a1_p p.st.length c1_p)) (h2_p : (celRow cIno p.ino).Rd w (.slice a2_p p.ino.length c2_p)) :
    Calls Try.prog 4 #[.agg #[.int .i64 p.ser, .slice a1_p p.st.length c1_p, .slice a2_p p.ino.length c2_p], .int .i64 q] w fun e w' => e = .returned (.bool true) ∧ Below w.heap.size w w' := by
  have HT_p := Lib.hid ht_p
  clear ht_p
  have HS1_p := Lib.hid h1_p
  clear h1_p
  have HS2_p := Lib.hid h2_p
  clear h2_p
  obtain ⟨rv, hrv⟩ : ∃ d, pathToB p.ino q = d := ⟨_, rfl⟩
  have HRV := Lib.hid hrv
  clear hrv
  have Xp_0 := Lib.hid (Bk.alloc w #[.int .i64 p.ser, .slice a1_p p.st.length c1_p, .slice a2_p p.ino.length c2_p] 31)
  have BW_0 := Lib.hid (below_bk w (.cells #[.int .i64 p.ser, .slice a1_p p.st.length c1_p, .slice a2_p p.ino.length c2_p] 31))
  go_enter Try.func4, Try.ntmps4
  have dp0 := Xp_0.out.cell (j := 0) rfl
  have dp1 := Xp_0.out.cell (j := 1) rfl
  have dp2 := Xp_0.out.cell (j := 2) rfl
  go_wp2_with fail
  obtain ⟨V0, hV⟩ : ∃ y, y = (w.alloc (.cells #[.int .i64 p.ser, .slice a1_p p.st.length c1_p, .slice a2_p p.ino.length c2_p] 31)) := ⟨_, rfl⟩
  clear dp0 dp1 dp2
  rw [← hV] at Xp_0 BW_0 ⊢
  have SZ_V0 : Hid (w.heap.size + 1 ≤ V0.heap.size) := Lib.hid (by rw [hV]; simp)
  clear hV
  refine (szPart_st p a1_p c1_p a2_p c2_p 1048576 _ (by decide) (by decide) (Cel.Rd.later BW_0.out _ _ HS1_p.out) (Cel.Rd.later BW_0.out _ _ HS2_p.out) HT_p.out).mono ?_
  rintro e w1 ⟨l_p, rfl, hr, hb⟩
  have Xp_1 := Lib.hid (Xp_0.out.later hb)
  have BW_1 : Hid (Below w.heap.size w w1) := Lib.hid (BW_0.out.trans (hb.mono BW_0.out.size))
  have SZ_w1 : Hid (V0.heap.size ≤ w1.heap.size) := Lib.hid hb.size
  clear hb Xp_0 BW_0
  rcases hr with hr | ⟨hl0, hl1⟩
  · go_wp2
    go_ret
    exact ⟨rfl, BW_1.out⟩
  have HZ_p : Hid (szL (cPart.cels p) ≤ 1048576) := Lib.hid (by omega)
  have HZB_p : Hid (szL (cPart.cels p) ≤ 100000000) := Lib.hid (by omega)
  have hq_p : ¬ (l_p < 0) := by omega
  have hp_p : l_p ≤ 1048576 := by omega
  clear hl1
  have dp0 := Xp_1.out.cell (j := 0) rfl
  have dp1 := Xp_1.out.cell (j := 1) rfl
  have dp2 := Xp_1.out.cell (j := 2) rfl
  go_wp2_with fail
  clear dp0 dp1 dp2
  refine (toPart_st p a1_p c1_p a2_p c2_p _ (Cel.Rd.later BW_1.out _ _ HS1_p.out) (Cel.Rd.later BW_1.out _ _ HS2_p.out) HZ_p.out).mono ?_
  rintro e w2 ⟨vs, rfl, ho, hb⟩
  have Xp_2 := Lib.hid (Xp_1.out.later hb)
  have BW_2 : Hid (Below w.heap.size w w2) := Lib.hid (BW_1.out.trans (hb.mono BW_1.out.size))
  have SZ_w2 : Hid (w1.heap.size ≤ w2.heap.size) := Lib.hid hb.size
  clear hb Xp_1 BW_1
  obtain ⟨a1_y, c1_y, a2_y, c2_y, rfl, _, _⟩ := cPart_form ho.rd
  have Oy_2x := Lib.hid ho
  clear ho
  have dp0 := Xp_2.out.cell (j := 0) rfl
  have dp1 := Xp_2.out.cell (j := 1) rfl
  have dp2 := Xp_2.out.cell (j := 2) rfl
  go_wp2_with fail
  clear dp0 dp1 dp2
  refine (specPathTo_any p a1_y c1_y a2_y c2_y q _ (cPart_un Oy_2x.out.rd).2 HZ_p.out).mono ?_
  rw [HRV.out]
  rintro e w3 ⟨rfl, hb⟩
  have Xp_3 := Lib.hid (Xp_2.out.later hb)
  have Oy_3 := Lib.hid (Oy_2x.out.later hb)
  have BW_3 : Hid (Below w.heap.size w w3) := Lib.hid (BW_2.out.trans (hb.mono BW_2.out.size))
  have SZ_w3 : Hid (w2.heap.size ≤ w3.heap.size) := Lib.hid hb.size
  clear hb Xp_2 Oy_2x BW_2
  clear Oy_3
  have dp0 := Xp_3.out.cell (j := 0) rfl
  have dp1 := Xp_3.out.cell (j := 1) rfl
  have dp2 := Xp_3.out.cell (j := 2) rfl
  go_wp2_with fail
  clear dp0 dp1 dp2
  refine (toPart_st p a1_p c1_p a2_p c2_p _ (Cel.Rd.later BW_3.out _ _ HS1_p.out) (Cel.Rd.later BW_3.out _ _ HS2_p.out) HZ_p.out).mono ?_
  rintro e w4 ⟨vs, rfl, ho, hb⟩
  have Xp_4 := Lib.hid (Xp_3.out.later hb)
  have BW_4 : Hid (Below w.heap.size w w4) := Lib.hid (BW_3.out.trans (hb.mono BW_3.out.size))
  have SZ_w4 : Hid (w3.heap.size ≤ w4.heap.size) := Lib.hid hb.size
  clear hb Xp_3 BW_3
  obtain ⟨a1_x, c1_x, a2_x, c2_x, rfl, _, _⟩ := cPart_form ho.rd
  have Ox_4x := Lib.hid ho
  clear ho
  have hba := below_bk w4 (.cells #[.int .i64 p.ser, .slice a1_x p.st.length c1_x, .slice a2_x p.ino.length c2_x] 36)
  have Xp_5 := Lib.hid (Xp_4.out.later hba)
  have Ox_5 := Lib.hid (Ox_4x.out.later hba)
  have BW_5 : Hid (Below w.heap.size w (w4.alloc (.cells #[.int .i64 p.ser, .slice a1_x p.st.length c1_x, .slice a2_x p.ino.length c2_x] 36))) := Lib.hid (BW_4.out.trans (hba.mono BW_4.out.size))
  have Xx_5 := Lib.hid (Bk.alloc w4 #[.int .i64 p.ser, .slice a1_x p.st.length c1_x, .slice a2_x p.ino.length c2_x] 36)
  clear hba Xp_4 Ox_4x BW_4
  have dp0 := Xp_5.out.cell (j := 0) rfl
  have dp1 := Xp_5.out.cell (j := 1) rfl
  have dp2 := Xp_5.out.cell (j := 2) rfl
  have dx0 := Xx_5.out.cell (j := 0) rfl
  have dx1 := Xx_5.out.cell (j := 1) rfl
  have dx2 := Xx_5.out.cell (j := 2) rfl
  go_wp2_with fail
  obtain ⟨V4, hV⟩ : ∃ y, y = (w4.alloc (.cells #[.int .i64 p.ser, .slice a1_x p.st.length c1_x, .slice a2_x p.ino.length c2_x] 36)) := ⟨_, rfl⟩
  clear dp0 dp1 dp2 dx0 dx1 dx2
  rw [← hV] at Xp_5 Xx_5 Ox_5 BW_5 ⊢
  have SZ_V4 : Hid (w4.heap.size + 1 ≤ V4.heap.size) := Lib.hid (by rw [hV]; simp)
  clear hV
  refine (implPathTo_any p a1_x c1_x a2_x c2_x q _ (cPart_un Ox_5.out.rd).2 HZ_p.out).mono ?_
  rw [HRV.out]
  rintro e w5 ⟨rfl, hb⟩
  have Xp_6 := Lib.hid (Xp_5.out.later hb)
  have Xx_6 := Lib.hid (Xx_5.out.later hb)
  have Ox_6 := Lib.hid (Ox_5.out.later hb)
  have BW_6 : Hid (Below w.heap.size w w5) := Lib.hid (BW_5.out.trans (hb.mono BW_5.out.size))
  have SZ_w5 : Hid (V4.heap.size ≤ w5.heap.size) := Lib.hid hb.size
  clear hb Xp_5 Xx_5 Ox_5 BW_5
  go_wp2
  have XD := Lib.hid Xx_6.out.drew
  have AD := Lib.hid Xp_6.out.drew
  have BD := Lib.hid BW_6.out.drew
  have OD : Hid (Objs w5.drew w3.heap.size w4.heap.size _ _) := Lib.hid (Ox_6.out.later (Below.refl _ _).drew)
  go_region_held3 (fun w' => w'.cell? ⟨w4.heap.size, 0, none⟩ = some (.int .i64 p.ser) ∧ w'.cell? ⟨w4.heap.size, 1, none⟩ = some (.slice a1_x p.st.length c1_x) ∧ w'.cell? ⟨w4.heap.size, 2, none⟩ = some (.slice a2_x p.ino.length c2_x) ∧ w'.cell? ⟨w.heap.size, 0, none⟩ = some (.int .i64 p.ser) ∧ w'.cell? ⟨w.heap.size, 1, none⟩ = some (.slice a1_p p.st.length c1_p) ∧ w'.cell? ⟨w.heap.size, 2, none⟩ = some (.slice a2_p p.ino.length c2_p))
    (first
      | exact ⟨XD.out.cell rfl, XD.out.cell rfl, XD.out.cell rfl, AD.out.cell rfl, AD.out.cell rfl, AD.out.cell rfl⟩
      | exact ⟨XE.out.cell rfl, XE.out.cell rfl, XE.out.cell rfl, AE.out.cell rfl, AE.out.cell rfl, AE.out.cell rfl⟩
      | exact ⟨XF.out.cell rfl, XF.out.cell rfl, XF.out.cell rfl, AF.out.cell rfl, AF.out.cell rfl, AF.out.cell rfl⟩
      | go_keep)
    (first
      | (go_at_call 16; (with_reducible refine (toPart_st p a1_p c1_p a2_p c2_p _ (Cel.Rd.later BD.out _ _ HS1_p.out) (Cel.Rd.later BD.out _ _ HS2_p.out) HZ_p.out).mono ?_); rintro e wa7 ⟨vs, rfl, ho, hb⟩; obtain ⟨a1_z9, c1_z9, a2_z9, c2_z9, rfl, q1, q2⟩ := cPart_form ho.rd; have XE := Lib.hid (XD.out.later hb); have AE := Lib.hid (AD.out.later hb); have OE := Lib.hid (OD.out.later hb); have BE : Hid (Below w.heap.size w wa7) := Lib.hid (BD.out.trans (hb.mono BD.out.size)); have SZ_wa7 : Hid (w5.heap.size ≤ wa7.heap.size) := Lib.hid hb.size; clear hb ho)
      | (go_at_call 18; (with_reducible refine (eqPart_st p a1_x c1_x a2_x c2_x a1_z9 c1_z9 a2_z9 c2_z9 _ (cPart_un OE.out.rd).1 (cPart_un OE.out.rd).2 q1 q2 HZB_p.out).mono ?_); rintro e wb7 ⟨rfl, hb⟩; have XF := Lib.hid (XE.out.later hb); have AF := Lib.hid (AE.out.later hb); have OF := Lib.hid (OE.out.later hb); have BF : Hid (Below w.heap.size w wb7) := Lib.hid (BE.out.trans (hb.mono BE.out.size)); have SZ_wb7 : Hid (wa7.heap.size ≤ wb7.heap.size) := Lib.hid hb.size; clear hb))
  have Xx_7 := XF
  have Xp_7 := AF
  have BW_7 := BF
  have Ox_7 := OF
  clear Xp_6 Xx_6 Ox_6 BW_6 XD XE XF AD AE AF BD BE BF OD OE OF
  go_wp2
  go_ret
  exact ⟨rfl, BW_7.out⟩
end Go.Proofs.Ytmkchilhnmkhkaa
namespace Go.Proofs.Ytmkchilhnmkhkaa
open Go.RowKit Go.Proofs.Ytmkchilhnmkhkaa.Parts Go.Proofs.Ytmkchilhnmkhkaa.Hexa

set_option maxRecDepth 100000 in
set_option maxHeartbeats 400000 in
theorem eqEntry_any (x0 : Int) (x1 : ByteArray) (w : World) :
    Calls Try.prog 82 #[.agg #[.int .i64 x0, .string x1], .agg #[.int .i64 x0, .string x1]] w fun e w' => e = .returned (.bool true) ∧ Below w.heap.size w w' := by
  go_enter Try.func82, Try.ntmps82
  go_wp2
  go_ret
  exact ⟨rfl, ((Below.refl _ _).alloc (Nat.le_refl _) _).alloc (by simp) _⟩

end Go.Proofs.Ytmkchilhnmkhkaa
namespace Go.Proofs.Ytmkchilhnmkhkaa
open Go.RowKit Go.Proofs.Ytmkchilhnmkhkaa.Parts Go.Proofs.Ytmkchilhnmkhkaa.Hexa

set_option maxRecDepth 100000 in
set_option maxHeartbeats 400000 in
theorem szEntry_any (x0 : Int) (x1 : ByteArray) (l : Int) (w : World) (h0 : 0 ≤ l) (hl : l ≤ 1048576) (hk1 : x1.size ≤ maxLen) :
    Calls Try.prog 21 #[.agg #[.int .i64 x0, .string x1], .int .i64 l] w fun e w' => ∃ r, e = .returned (.int .i64 r) ∧ (r < 0 ∨ (0 ≤ r ∧ r ≤ l ∧ (x1.size : Int) ≤ l)) ∧ Below w.heap.size w w' := by
  unfold maxLen at hk1
  by_cases h1 : l - (x1.size : Int) < 0
  · go_enter Try.func21, Try.ntmps21
    go_wp2
    go_ret
    exact ⟨_, rfl, .inl (by omega), (Below.refl _ _).alloc (Nat.le_refl _) _⟩
  · go_enter Try.func21, Try.ntmps21
    go_wp2
    go_ret
    exact ⟨_, rfl, .inr (by omega), (Below.refl _ _).alloc (Nat.le_refl _) _⟩

set_option maxRecDepth 100000 in
set_option maxHeartbeats 400000 in
theorem toEntry_any (x0 : Int) (x1 : ByteArray) (w : World) :
    Calls Try.prog 23 #[.agg #[.int .i64 x0, .string x1]] w fun e w' => e = .returned (.agg #[.int .i64 x0, .string x1]) ∧ Below w.heap.size w w' := by
  go_enter Try.func23, Try.ntmps23
  go_wp2
  refine bodyPost_ret (v := .agg #[.int .i64 x0, .string x1]) ?_ rfl ⟨rfl, (((Below.refl _ _).alloc (Nat.le_refl _) _).alloc (by simp) _).alloc (by simp; omega) _⟩
  simp [results, Try.results23, go_sem]

set_option maxRecDepth 100000 in
set_option maxHeartbeats 1000000 in
theorem szEntrys_any (a : Option Addr) (n c : Nat) (L : List EntryR) (l0 : Int) (w : World) (hl0 : 0 ≤ l0) (hl1 : l0 ≤ 1048576) (hs : SrcEntry w a n L) (hn : n ≤ 9223372036854775807) (hm : FitEntry L n maxLen) :
    Calls Try.prog 56 #[.slice a n c, .int .i64 l0] w fun e w' => ∃ r, e = .returned (.int .i64 r) ∧ (r < 0 ∨ (0 ≤ r ∧ r ≤ l0 ∧ n ≤ 1048576 ∧ FitEntry L n 1048576)) ∧ Below w.heap.size w w' := by
  have HS := Lib.hid hs
  have HM := Lib.hid hm
  clear hs hm
  by_cases hlt0 : l0 - (n : Int) < 0
  · go_enter Try.func56, Try.ntmps56
    go_wp2
    go_ret
    exact ⟨-1, rfl, .inl (by omega), Below.refl _ _⟩
  · go_enter Try.func56, Try.ntmps56
    go_wp2
    go_loopw [1, 5] (fun lv iv wr => ∃ (k : Nat) (l : Int), k ≤ n ∧ iv = .int .i64 k ∧ lv = .int .i64 l ∧ 0 ≤ l ∧ l ≤ l0 ∧ Hid (∀ j, j < k → (L.getD j default).f1.size ≤ 1048576) ∧ Below w.heap.size w wr) (fun _ iv _ => n - (intOf iv).toNat)
    case atStart => exact ⟨0, _, Nat.zero_le _, rfl, rfl, by omega, by omega, Lib.hid (fun j hj => by omega), Below.refl _ _⟩
    case round =>
      obtain ⟨k, l, hk, rfl, rfl, h0, hl, HA, hbel⟩ := hrel
      by_cases hlt : k < n
      · obtain ⟨g, off, rfl, hg, d0, d1⟩ := srcEntry_later HS.out hbel (Nat.le_refl _) k hlt
        obtain ⟨x, hx⟩ : ∃ x, L.getD k default = x := ⟨_, rfl⟩
        rw [hx] at d0 d1
        go_wp2_with fail
        have hm0 := HM.out k hlt
        rw [hx] at hm0
        have hm := hm0
        refine (szEntry_any x.f0 x.f1 l _ h0 (by omega) hm).mono ?_
        rintro e w1 ⟨r, rfl, hr, hb1⟩
        have hb2 : Below w.heap.size w w1 := hbel.trans (hb1.mono hbel.size)
        clear d0 d1 hb1 hm
        rcases hr with h1 | ⟨h1, h2, h31⟩
        · go_wp2
          go_ret
          exact ⟨-1, rfl, .inl (by omega), hb2⟩
        · have HA2 : Hid (∀ j, j < k + 1 → (L.getD j default).f1.size ≤ 1048576) := Lib.hid (fun j hj => by
            by_cases e : j = k
            · subst e; rw [hx]; omega
            · exact HA.out j (by omega))
          clear HA hx h31
          go_wp2
          go_roundw
          case rel => exact ⟨k + 1, r, by omega, by go_num, rfl, h1, by omega, HA2, hb2⟩
          case measure => (simp [intOf]; try omega)
      · obtain rfl : k = n := by omega
        go_wp2
        go_ret
        refine ⟨l, rfl, .inr ⟨h0, hl, by omega, fun j hj => HA.out j hj⟩, hbel⟩
end Go.Proofs.Ytmkchilhnmkhkaa
namespace Go.Proofs.Ytmkchilhnmkhkaa
open Go.RowKit Go.Proofs.Ytmkchilhnmkhkaa.Parts Go.Proofs.Ytmkchilhnmkhkaa.Hexa Go.Proofs.Ytmkchilhnmkhkaa.Byt

set_option maxRecDepth 100000 in
set_option maxHeartbeats 1000000 in
theorem specEntryWord_no (p : Int) (m : ByteArray) (w : World) (hm : m.size ≤ 2000000) (h : ¬ EntryOk ⟨p, m⟩) :
    Calls Try.prog 22 #[.agg #[.int .i64 p, .string m]] w (SaysT ⟨#[]⟩ w) := by
  by_cases h0 : 1 ≤ p ∧ p ≤ 5
  · have H0 := Lib.hid h0
    have h2 : ¬ NameR m := fun e => h ⟨h0, e⟩
    have HN := Lib.hid (nameB_no h2)
    clear h0 h h2
    go_enter Try.func22, Try.ntmps22
    go_wp2_with (first | ((with_reducible refine (range_yes _ H0.out).mono ?_); rintro e w1 ⟨rfl, rfl⟩) | (go_at_call 19; refine (specName_any m _ hm).mono ?_; rw [HN.out]; rintro e w1 ⟨rfl, rfl⟩))
    go_ret
    exact ⟨rfl, below_bk w _⟩
  · have H0 := Lib.hid h0
    clear h0 h
    go_enter Try.func22, Try.ntmps22
    go_wp2_with ((with_reducible refine (range_no _ H0.out).mono ?_); rintro e w1 ⟨rfl, rfl⟩)
    go_ret
    exact ⟨rfl, below_bk w _⟩

set_option maxRecDepth 100000 in
set_option maxHeartbeats 1000000 in
theorem specEntryWord_yes (p : Int) (m : ByteArray) (w : World) (h : EntryOk ⟨p, m⟩) :
    Calls Try.prog 22 #[.agg #[.int .i64 p, .string m]] w (SaysT (entryWordB ⟨p, m⟩) w) := by
  have HE := Lib.hid (entryWordB_yes h)
  obtain ⟨h0, h1⟩ := h
  have H0 : Hid (1 ≤ p ∧ p ≤ 5) := Lib.hid h0
  have HN := Lib.hid (nameB_yes h1)
  have hm : m.size ≤ 7 := h1.1.2
  have T0 := Lib.hid (Bk.alloc w #[.int .i64 p, .string m] 45)
  have B0 := Lib.hid (below_bk w (.cells #[.int .i64 p, .string m] 45))
  have hA : (numTextB p 1).size = 1 := numText_size (k := 1) (by omega) (by have := H0.out.1; omega) (by have := H0.out.2; omega)
  obtain ⟨A, hAe⟩ : ∃ A, numTextB p 1 = A := ⟨_, rfl⟩
  have HA := Lib.hid hAe
  rw [hAe] at hA
  have hA1 : ¬ (9223372036854775807 < A.size + m.size) := by omega
  have T0d := Lib.hid T0.out.drew
  have B0d : Hid (Below w.heap.size w (w.alloc (.cells #[.int .i64 p, .string m] 45)).drew) := Lib.hid B0.out.drew
  clear h0 h1 hAe hA
  go_enter Try.func22, Try.ntmps22
  go_wp2_with (first | ((with_reducible refine (range_yes _ H0.out).mono ?_); rintro e w1 ⟨rfl, rfl⟩) | (go_at_call 19; refine (specName_any m _ (by omega)).mono ?_; rw [HN.out]; rintro e w1 ⟨rfl, rfl⟩))
  go_region_held3 (fun w' => w'.cell? ⟨w.heap.size, 0, none⟩ = some (.int .i64 p) ∧ w'.cell? ⟨w.heap.size, 1, none⟩ = some (.string m))
    (first
      | exact ⟨T0d.out.cell rfl, T0d.out.cell rfl⟩
      | exact ⟨T1.out.cell rfl, T1.out.cell rfl⟩
      | exact ⟨T2.out.cell rfl, T2.out.cell rfl⟩
      | go_keep)
    (first
      | (go_at_call 52; (with_reducible refine (specNum_any p 1 _ (by have := H0.out.2; omega)).mono ?_); rw [HA.out]; rintro e w1 ⟨rfl, hb⟩; have T1 := Lib.hid (T0d.out.later hb); have B1 : Hid (Below w.heap.size w w1) := Lib.hid (B0d.out.trans (hb.mono B0d.out.size)); clear hb)
      | (go_at_call 51; (with_reducible refine (specWord_any (A ++ m) _).mono ?_); rintro e w2 ⟨rfl, hb⟩; have T2 := Lib.hid (T1.out.later hb); have B2 : Hid (Below w.heap.size w w2) := Lib.hid (B1.out.trans (hb.mono B1.out.size)); clear hb))
  go_wp2
  go_ret
  exact ⟨by rw [HE.out, HA.out]; rfl, B2.out⟩
theorem specEntryWord_any (p : Int) (m : ByteArray) (w : World) (hm : m.size ≤ 2000000) :
    Calls Try.prog 22 #[.agg #[.int .i64 p, .string m]] w (SaysT (entryWordB ⟨p, m⟩) w) := by
  by_cases h : EntryOk ⟨p, m⟩
  · exact specEntryWord_yes p m w h
  · rw [entryWordB_no h]; exact specEntryWord_no p m w hm h
end Go.Proofs.Ytmkchilhnmkhkaa
namespace Go.Proofs.Ytmkchilhnmkhkaa
open Go.RowKit

set_option maxRecDepth 100000 in
set_option maxHeartbeats 400000 in
theorem implIn_any (n a b : Int) (w : World) : Calls Try.prog 49 #[.int .i64 n, .int .i64 a, .int .i64 b] w fun e w' => e = .returned (.bool (decide (a ≤ n ∧ n ≤ b))) ∧ w' = w := by
  by_cases h1 : a ≤ n <;> by_cases h2 : n ≤ b
  all_goals
    go_enter Try.func49, Try.ntmps49
    go_wp2
    all_goals go_ret
    all_goals exact ⟨by simp [h1, h2], rfl⟩
theorem implIn_yes {n a b : Int} (w : World) (h : a ≤ n ∧ n ≤ b) : Calls Try.prog 49 #[.int .i64 n, .int .i64 a, .int .i64 b] w fun e w' => e = .returned (.bool true) ∧ w' = w :=
  (implIn_any n a b w).mono fun _ _ ⟨he, hw⟩ => ⟨by rw [he, decide_eq_true h], hw⟩
theorem implIn_no {n a b : Int} (w : World) (h : ¬ (a ≤ n ∧ n ≤ b)) : Calls Try.prog 49 #[.int .i64 n, .int .i64 a, .int .i64 b] w fun e w' => e = .returned (.bool false) ∧ w' = w :=
  (implIn_any n a b w).mono fun _ _ ⟨he, hw⟩ => ⟨by rw [he, decide_eq_false h], hw⟩

end Go.Proofs.Ytmkchilhnmkhkaa
namespace Go.Proofs.Ytmkchilhnmkhkaa
open Go.RowKit Go.Proofs.Ytmkchilhnmkhkaa.Parts Go.Proofs.Ytmkchilhnmkhkaa.Hexa Go.Proofs.Ytmkchilhnmkhkaa.Byt

set_option maxRecDepth 100000 in
set_option maxHeartbeats 1000000 in
theorem implNameByte_any (n : Int) (w : World) :
    Calls Try.prog 77 #[.int .u8 n] w fun e w' => e = .returned (.bool (decide ((97 ≤ n ∧ n ≤ 122) ∨ (48 ≤ n ∧ n ≤ 57)))) ∧ w' = w := by
  by_cases h1 : 97 ≤ n <;> by_cases h2 : n ≤ 122 <;> by_cases h3 : 48 ≤ n <;> by_cases h4 : n ≤ 57
  all_goals
    go_enter Try.func77, Try.ntmps77
    go_wp2
    all_goals go_ret
    all_goals exact ⟨by simp [h1, h2, h3, h4], rfl⟩
theorem implNameByte_yes {b : UInt8} (w : World) (h : NameC b) :
    Calls Try.prog 77 #[.int .u8 (b.toNat : Int)] w fun e w' => e = .returned (.bool true) ∧ w' = w :=
  (implNameByte_any (b.toNat : Int) w).mono fun _ _ ⟨he, hw⟩ => ⟨by rw [he, decide_eq_true (by rcases h with h | h <;> omega)], hw⟩
theorem implNameByte_no {b : UInt8} (w : World) (h : ¬ NameC b) :
    Calls Try.prog 77 #[.int .u8 (b.toNat : Int)] w fun e w' => e = .returned (.bool false) ∧ w' = w :=
  (implNameByte_any (b.toNat : Int) w).mono fun _ _ ⟨he, hw⟩ => ⟨by rw [he, decide_eq_false (fun x => h (by rcases x with x | x; exact .inl (by omega); exact .inr (by omega)))], hw⟩

/-- Every byte of it may stand in a name. -/
def nameBytes (s : ByteArray) : Bool := decide (∀ b ∈ s.data.toList, NameC b)
theorem nameBytes_yes {s : ByteArray} (h : ∀ j (hj : j < s.size), NameC s[j]) : nameBytes s = true := decide_eq_true (fun b hb => by
  obtain ⟨j, hj, rfl⟩ := List.mem_iff_getElem.1 hb
  have hj' : j < s.size := by simpa using hj
  exact h j hj')
theorem nameBytes_no {s : ByteArray} (j : Nat) (hj : j < s.size) (h : ¬ NameC s[j]) : nameBytes s = false := decide_eq_false (fun h2 => h (h2 _ (by
  rw [show s[j] = s.data.toList[j]'(by simpa using hj) from rfl]
  exact List.getElem_mem _)))
theorem nameB_split (s : ByteArray) : nameB s = (decide (1 ≤ s.size ∧ s.size ≤ 7) && nameBytes s) := by
  unfold nameB nameBytes NameR
  by_cases h1 : 1 ≤ s.size ∧ s.size ≤ 7 <;> simp [h1]

set_option maxRecDepth 100000 in
set_option maxHeartbeats 1000000 in
theorem implNameBytes_any (s : ByteArray) (w : World) (hs : s.size ≤ 2000000) :
    Calls Try.prog 50 #[.string s] w fun e w' => e = .returned (.bool (nameBytes s)) ∧ w' = w := by
  go_enter Try.func50, Try.ntmps50
  go_wp2
  go_loop [6] (fun i => ∃ k : Nat, k ≤ s.size ∧ i = .int .i64 k ∧ Hid (∀ j (hj : j < s.size), j < k → NameC s[j])) (fun i => s.size - (intOf i).toNat)
  case atStart => exact ⟨0, Nat.zero_le _, rfl, Lib.hid (fun j hj h => by omega)⟩
  case round =>
    obtain ⟨k, hk, rfl, HA⟩ := hrel
    by_cases hlt : k < s.size
    · obtain ⟨b, hb⟩ : ∃ b, s[k]'hlt = b := ⟨_, rfl⟩
      have hb255 := b.toNat_lt
      have HB := Lib.hid hb
      by_cases h1 : NameC b
      · have HR := Lib.hid h1
        have HA2 : Hid (∀ j (hj : j < s.size), j < k + 1 → NameC s[j]) := Lib.hid (fun j hj h => by
          by_cases e : j = k
          · subst e; rw [HB.out]; exact HR.out
          · exact HA.out j hj (by omega))
        clear h1
        go_wp2_with ((with_reducible refine (implNameByte_yes _ HR.out).mono ?_); rintro e w1 ⟨rfl, rfl⟩)
        go_round
        case rel => exact ⟨k + 1, by omega, by go_num, HA2⟩
        case measure => (simp [intOf]; try omega)
      · have HR := Lib.hid h1
        have HN : Hid (nameBytes s = false) := Lib.hid (nameBytes_no k hlt (by rw [hb]; exact h1))
        clear h1
        go_wp2_with ((with_reducible refine (implNameByte_no _ HR.out).mono ?_); rintro e w1 ⟨rfl, rfl⟩)
        go_ret
        exact ⟨by rw [HN.out]; rfl, rfl⟩
    · obtain rfl : k = s.size := by omega
      have HN : Hid (nameBytes s = true) := Lib.hid (nameBytes_yes (fun j hj => HA.out j hj hj))
      go_wp2
      go_ret
      exact ⟨by rw [HN.out]; rfl, rfl⟩
set_option maxRecDepth 100000 in
set_option maxHeartbeats 1000000 in
theorem implName_any (s : ByteArray) (w : World) (hs : s.size ≤ 2000000) :
    Calls Try.prog 20 #[.string s] w fun e w' => e = .returned (.bool (nameB s)) ∧ w' = w := by
  by_cases hl : (1 : Int) ≤ (s.size : Int) ∧ (s.size : Int) ≤ 7
  · have HL := Lib.hid hl
    have HN : Hid (nameBytes s = nameB s) := Lib.hid (by rw [nameB_split, decide_eq_true (show 1 ≤ s.size ∧ s.size ≤ 7 by omega)]; rfl)
    clear hl
    go_enter Try.func20, Try.ntmps20
    go_wp2_with (first
      | ((with_reducible refine (implIn_yes _ HL.out).mono ?_); rintro e w1 ⟨rfl, rfl⟩)
      | ((with_reducible refine (implNameBytes_any s _ hs).mono ?_); rintro e w1 ⟨rfl, rfl⟩))
    go_ret
    exact ⟨by rw [HN.out]; rfl, rfl⟩
  · have HL := Lib.hid hl
    have HN : Hid (nameB s = false) := Lib.hid (nameB_no (fun h => hl (by have := h.1; omega)))
    clear hl
    go_enter Try.func20, Try.ntmps20
    go_wp2_with ((with_reducible refine (implIn_no _ HL.out).mono ?_); rintro e w1 ⟨rfl, rfl⟩)
    go_ret
    exact ⟨by rw [HN.out]; rfl, rfl⟩
end Go.Proofs.Ytmkchilhnmkhkaa
namespace Go.Proofs.Ytmkchilhnmkhkaa
open Go.RowKit Go.Lib Go.Proofs.Ytmkchilhnmkhkaa.Hexa Go.Proofs.Ytmkchilhnmkhkaa.Byt

theorem made_zero (n : Nat) : (madeCells (Value.int .u8 0).cells (n * 1)).toList = bcells (List.replicate n 0) := by
  apply List.ext_getElem?
  intro j
  have hcl : (Value.int .u8 0).cells = #[Value.int .u8 0] := rfl
  by_cases hj : j < n
  · simp [madeCells, hj, hcl, Nat.mod_one, bcells]
  · rw [List.getElem?_eq_none (by simp [madeCells]; omega), List.getElem?_eq_none (by simp [bcells]; omega)]

/-- The bytes A, and zeros up to n. -/
def partB (A : List UInt8) (n : Nat) : List UInt8 := A ++ List.replicate (n - A.length) 0
theorem partB_length (A : List UInt8) (n : Nat) (h : A.length ≤ n) : (partB A n).length = n := by simp [partB]; omega
theorem partB_nil (n : Nat) : partB [] n = List.replicate n 0 := by simp [partB]
theorem partB_full (A : List UInt8) (n : Nat) (h : A.length = n) : partB A n = A := by simp [partB, h]
theorem partB_set (A : List UInt8) (n : Nat) (x : UInt8) (h : A.length < n) : (partB A n).set A.length x = partB (A ++ [x]) n := by
  obtain ⟨m, hm⟩ : ∃ m, n - A.length = m + 1 := ⟨n - A.length - 1, by omega⟩
  have h2 : n - (A ++ [x]).length = m := by simp; omega
  unfold partB
  rw [h2, hm, List.replicate_succ, List.set_append_right _ _ (Nat.le_refl _), Nat.sub_self, List.set_cons_zero, List.append_assoc]
  rfl
theorem part_start {w : World} {B e g n : Nat} (h : w.ownsRow B e 1 (.slice (some ⟨g, 0, none⟩) n n) n (madeCells (Value.int .u8 0).cells (n * 1)).toList) :
    Bytes w B e (.slice (some ⟨g, 0, none⟩) n n) (partB [] n) := by
  rw [made_zero] at h
  rw [partB_nil]
  refine bytes_of_own ?_
  rw [List.length_replicate]
  exact h
/-- The next byte written. -/
theorem part_next {w : World} {B e g n : Nat} {A : List UInt8} (h : Bytes w B e (.slice (some ⟨g, 0, none⟩) n n) (partB A n)) (x : UInt8) (hl : A.length < n) :
    Bytes (w.setCell ⟨g, A.length, none⟩ (.int .u8 x.toNat)) B e (.slice (some ⟨g, 0, none⟩) n n) (partB (A ++ [x]) n) := by
  have hp := partB_length A n (by omega)
  have h' : Bytes w B e (.slice (some ⟨g, 0, none⟩) (partB A n).length n) (partB A n) := by rw [hp]; exact h
  have hs := bytes_set h' A.length x
  rw [partB_set A n x hl, hp] at hs
  exact hs
theorem part_at {w : World} {B e g n : Nat} {A : List UInt8} (h : Bytes w B e (.slice (some ⟨g, 0, none⟩) n n) (partB A n)) (hl : A.length < n) :
    (∃ v, w.cell? ⟨g, A.length, none⟩ = some v) ∧ w.frozen? ⟨g, A.length, none⟩ = false ∧ B ≤ g := by
  have hp := partB_length A n (by omega)
  have h' : Bytes w B e (.slice (some ⟨g, 0, none⟩) (partB A n).length n) (partB A n) := by rw [hp]; exact h
  obtain ⟨h1, h2, h3⟩ := bytes_at h' A.length (by omega)
  exact ⟨⟨_, h1⟩, h2, h3⟩

/-- 'copy(b, s)'. -/
theorem bytes_copy {P : Program} {t e u ty : TypeId} {i : TypeInfo} (ht : P.underlying t = some (.slice e)) (hi : P.info? e = some i) (hs1 : i.size = 1)
    {w : World} {B g c n : Nat} {l : List UInt8} (hn : l.length = n) (h : Bytes w B e (.slice (some ⟨g, 0, none⟩) n c) l) (s : ByteArray) (hs : s.size ≤ n) :
    ∃ w', (Builtin.copy_ #[t, u] ty #[.slice (some ⟨g, 0, none⟩) n c, .string s]).run P w = .ok (goInt s.size) w' ∧ Bytes w' B e (.slice (some ⟨g, 0, none⟩) n c) (s.data.toList ++ l.drop s.size) ∧ Below B w w' := by
  subst hn
  have hsl : s.data.toList.length = s.size := by simp
  rcases h with ⟨h, _⟩ | ⟨g', cap, cur, fz, hv, hb, hg, hfz, hlc, hm, hcs, htk⟩
  · cases h
  · simp at hv
    obtain ⟨rfl, rfl⟩ := hv
    have hst := Byt.run_store P g 0 e fz (strCells s) 0 cur w hg hfz (by rw [strCells_length]; omega) (strCells_oneCell s)
    have hf := run_firstCells_string (P := P) w 1 s
    have hln : (s.data.toList ++ l.drop s.size).length = l.length := by rw [List.length_append, List.length_drop, hsl]; omega
    simp only [Nat.add_zero, Nat.zero_add, strCells_length] at hst
    refine ⟨w.setRow g (List.take 0 cur.toList ++ strCells s ++ List.drop s.size cur.toList).toArray, ?_, .inr ⟨g, c, (List.take 0 cur.toList ++ strCells s ++ List.drop s.size cur.toList).toArray, fz, by rw [hln], hb, setRow_heap w g cur _ e fz hg, ?_, by rw [hln]; exact hlc, hm, ?_, ?_⟩, Byt.below_setRow w hb _⟩
    · simp [Builtin.copy_, run_underlying ht, Builtin.lenOf, sizeOf, typeInfo, hi, hs1, Nat.min_eq_left hs, hf, hst]
    · have hz : (List.take 0 cur.toList ++ strCells s ++ List.drop s.size cur.toList).toArray.size = cur.size := by simp [strCells_length]; omega
      rw [hz]; exact hfz
    · simp [strCells_length]; omega
    · rw [hln]
      have e1 : strCells s = bcells s.data.toList := rfl
      simp only [List.take_zero, List.nil_append, e1, bcells_append]
      have e2 : l.length = (bcells s.data.toList).length + (l.length - s.size) := by rw [bcells_length, hsl]; omega
      have e3 : bcells (l.drop s.size) = (bcells l).drop s.size := by simp [bcells]
      rw [e2, List.take_length_add_append, e3, ← htk, List.drop_take]

theorem wpList_copy_text {P : Program} {w : World} {ops : Array Oper} {rest : List Oper} {o : Oper} {a : Act} {Q : Exit → Act → World → Prop} (hgd : o.guard = none) (d s : Operand) (dT sT : TypeId)
    (ho : o.op = .call { callee := .builtin .copy, args := #[d, s], argTypes := #[dT, sT] }) (v0 v1 r : Value) (w' : World) (hd : a.eval d = v0) (hs : a.eval s = v1)
    (hrun : (Builtin.copy_ #[dT, sT] o.type #[v0, v1]).run P w = .ok r w') (h : wpList P ops Q rest (a.put o.dst r) w') : wpList P ops Q (o :: rest) a w := by
  refine wpList_plain hgd fun K hK => ?_
  unfold Oper.wp
  simp [execOp, ho, resolve, invoke, builtin, hd, hs, hrun, Result.andThen]
  exact hK _ _ h
end Go.Proofs.Ytmkchilhnmkhkaa
namespace Go.Proofs.Ytmkchilhnmkhkaa
open Go.RowKit Go.Proofs.Ytmkchilhnmkhkaa.Hexa Go.Proofs.Ytmkchilhnmkhkaa.Byt Go.Proofs.Ytmkchilhnmkhkaa.BitsM

set_option maxRecDepth 100000 in
set_option maxHeartbeats 1000000 in
theorem implNum_yes (m k : Nat) (w : World) (hk : 1 ≤ k) (hk' : k ≤ 7) (hm : m < 256 ^ k) :
    Calls Try.prog 54 #[.int .i64 m, .int .i64 k] w fun e w' => e = .returned (.string (numB m k)) ∧ Below w.heap.size w w' := by
  obtain ⟨i0, hi, hz0, hz1, hz2⟩ := info_parts infoByte
  have hmb : m < 72057594037927936 := Nat.lt_of_lt_of_le hm (Nat.le_trans (Nat.pow_le_pow_right (by omega) hk') (by decide))
  have hq := shift_zero hm
  have h0 : ¬ ((m : Int) < 0) := by omega
  have hsh0 : (8 * (k : Int)).toNat = 8 * k := by omega
  clear hm
  go_enter Try.func54, Try.ntmps54
  go_wp2_with (at_make; refine wpList_make_full _ rfl _ _ 103 rfl w.heap.size 5 i0 (.int .u8 0) 1 Try.underlying103 hi hz0 hz1 .i64 .i64 _ _ k rfl rfl rfl rfl (by rw [hz2]; omega) (by unfold maxLen; omega) (Nat.le_refl _) ?_; intro w0 hown0 hgrow0)
  have hg0 : Below w.heap.size w w0 := (Below.refl _ _).grown hgrow0 (Nat.le_refl _) (fun k h => by cases h)
  have HO0 := Lib.hid (part_start hown0)
  clear hown0 hgrow0 hq hsh0
  go_loopw [6, 28] (fun jv iv wr => ∃ j : Nat, j ≤ k ∧ iv = .int .i64 j ∧ Hid (Bytes wr w.heap.size 5 (.slice (some ⟨w.heap.size, 0, none⟩) k k) (partB (numL m k j) k)) ∧ Below w.heap.size w wr)
    (fun _ iv _ => k - (intOf iv).toNat)
  case atStart => exact ⟨0, Nat.zero_le _, rfl, HO0, hg0⟩
  case round =>
    clear HO0 hg0
    obtain ⟨j, hj, rfl, HW, hbel⟩ := hrel
    have hl := numL_length m k j
    by_cases hlt : j < k
    · have hsh : (8 * ((k : Int) - 1 - j)).toNat = 8 * (k - 1 - j) := by omega
      have hge : 0 ≤ (k : Int) - 1 - j := by omega
      have hby := num_byte m (k - 1 - j)
      have HNX := Lib.hid (numL_next m k j)
      obtain ⟨⟨v, c3⟩, z3, hB⟩ := part_at HW.out (by omega)
      have N3 := Lib.hid (part_next HW.out (UInt8.ofNat (m / 256 ^ (k - 1 - j))) (by omega))
      rw [hl] at c3 z3 N3
      rw [HNX.out] at N3
      generalize UInt8.ofNat (m / 256 ^ (k - 1 - j)) = z at hby N3
      have hb1 : Below w.heap.size w (wr.setCell ⟨w.heap.size, j, none⟩ (.int .u8 (z.toNat : Int))) := hbel.setCell (Nat.le_refl _) _
      clear HNX
      go_wp2
      go_roundw
      case rel => exact ⟨j + 1, by omega, by go_num, N3, hb1⟩
      case measure => (simp [intOf]; try omega)
    · obtain rfl : j = k := by omega
      have h9 := HW.out
      rw [partB_full _ _ hl] at h9
      have hconv := bytes_string (P := Try.prog) 103 9 Try.underlying103 Try.underlying5 Try.underlying9 h9
      clear h9
      go_wp2
      go_ret
      exact ⟨rfl, hbel⟩
end Go.Proofs.Ytmkchilhnmkhkaa
namespace Go.Proofs.Ytmkchilhnmkhkaa
open Go.RowKit Go.Proofs.Ytmkchilhnmkhkaa.Hexa Go.Proofs.Ytmkchilhnmkhkaa.Byt Go.Proofs.Ytmkchilhnmkhkaa.BitsM

set_option maxRecDepth 100000 in
set_option maxHeartbeats 1000000 in
theorem implNum_no (n width : Int) (w : World) (h : ¬ NumFits n width) (hn : n ≤ 9223372036854775807) :
    Calls Try.prog 54 #[.int .i64 n, .int .i64 width] w fun e w' => e = .returned (.string ⟨#[]⟩) ∧ w' = w := by
  by_cases h0 : n < 0
  · go_enter Try.func54, Try.ntmps54
    go_wp2
    go_ret
    exact ⟨rfl, rfl⟩
  · by_cases hr1 : width < 1
    · go_enter Try.func54, Try.ntmps54
      go_wp2
      go_ret
      exact ⟨rfl, rfl⟩
    · by_cases hr2 : 7 < width
      · go_enter Try.func54, Try.ntmps54
        go_wp2
        go_ret
        exact ⟨rfl, rfl⟩
      · have hbig : ¬ n < 256 ^ width.toNat := fun hlt => h ⟨by omega, ⟨by omega, by omega⟩, hlt⟩
        obtain ⟨k, rfl⟩ : ∃ k : Nat, width = k := ⟨width.toNat, by omega⟩
        obtain ⟨m, rfl⟩ : ∃ m : Nat, n = m := ⟨n.toNat, by omega⟩
        have hm : 256 ^ k ≤ m := by
          have e : ((k : Int).toNat) = k := by omega
          rw [e] at hbig
          have e2 : (256 : Int) ^ k = ((256 ^ k : Nat) : Int) := by simp
          rw [e2] at hbig
          omega
        have hq0 := shift_pos hm
        have hq : ¬ ((m : Int) / 2 ^ (8 * k) = 0) := by omega
        have hsh0 : (8 * (k : Int)).toNat = 8 * k := by omega
        clear h hbig hm hq0
        go_enter Try.func54, Try.ntmps54
        go_wp2
        go_ret
        exact ⟨rfl, rfl⟩

theorem implNum_any (n width : Int) (w : World) (hn : n ≤ 9223372036854775807) :
    Calls Try.prog 54 #[.int .i64 n, .int .i64 width] w fun e w' => e = .returned (.string (numTextB n width)) ∧ Below w.heap.size w w' := by
  by_cases h : NumFits n width
  · have hE : numTextB n width = numB n.toNat width.toNat := by unfold numTextB; exact if_pos h
    obtain ⟨h0, ⟨h1, h7⟩, hf⟩ := h
    obtain ⟨m, rfl⟩ : ∃ m : Nat, n = m := ⟨n.toNat, by omega⟩
    obtain ⟨k, rfl⟩ : ∃ k : Nat, width = k := ⟨width.toNat, by omega⟩
    rw [hE]
    simp only [Int.toNat_natCast] at hf ⊢
    have e2 : (256 : Int) ^ k = ((256 ^ k : Nat) : Int) := by simp
    rw [e2] at hf
    exact implNum_yes m k w (by omega) (by omega) (by omega)
  · have hE : numTextB n width = ⟨#[]⟩ := by unfold numTextB; exact if_neg h
    rw [hE]
    exact (implNum_no n width w h hn).mono fun e w' ⟨he, hw⟩ => ⟨he, by rw [hw]; exact Below.refl _ _⟩
end Go.Proofs.Ytmkchilhnmkhkaa
namespace Go.Proofs.Ytmkchilhnmkhkaa
open Go.RowKit Go.Proofs.Ytmkchilhnmkhkaa.Hexa Go.Proofs.Ytmkchilhnmkhkaa.Byt Go.Proofs.Ytmkchilhnmkhkaa.BitsM

theorem wordB_list (s : ByteArray) (h : s.size ≤ 8) : (⟨(s.data.toList ++ (partB [] 8).drop s.size).toArray⟩ : ByteArray) = wordB s := by
  have hE : wordB s = s ++ longB (8 - s.size) 0 := if_pos h
  rw [hE, partB_nil, List.drop_replicate]
  apply ByteArray.ext
  apply Array.toList_inj.1
  rw [ByteArray.data_append, Array.toList_append]
  rfl

set_option maxRecDepth 100000 in
set_option maxHeartbeats 1000000 in
theorem implWord_any (s : ByteArray) (w : World) :
    Calls Try.prog 53 #[.string s] w fun e w' => e = .returned (.string (wordB s)) ∧ Below w.heap.size w w' := by
  by_cases h : s.size ≤ 8
  · obtain ⟨i0, hi, hz0, hz1, hz2⟩ := info_parts infoByte
    have HE := Lib.hid (wordB_list s h)
    go_enter Try.func53, Try.ntmps53
    go_wp2_with (at_make; refine wpList_make_full _ rfl _ _ 103 rfl w.heap.size 5 i0 (.int .u8 0) 1 Try.underlying103 hi hz0 hz1 .i64 .i64 _ _ 8 rfl rfl rfl rfl (by rw [hz2]; omega) (by unfold maxLen; omega) (Nat.le_refl _) ?_; intro w0 hown0 hgrow0; have hg0 : Below w.heap.size w w0 := (Below.refl _ _).grown hgrow0 (Nat.le_refl _) (fun k h => by cases h); obtain ⟨w1, hrun, hb1, hg1⟩ := bytes_copy (P := Try.prog) (u := 9) (ty := 3) Try.underlying103 hi hz1 (partB_length [] 8 (by decide)) (part_start hown0) s h; have hconv := bytes_string (P := Try.prog) 103 9 Try.underlying103 Try.underlying5 Try.underlying9 hb1; rw [HE.out] at hconv; clear hown0 hgrow0 hb1)
    go_ret
    exact ⟨rfl, hg0.trans hg1⟩
  · have HE : Hid (wordB s = ⟨#[]⟩) := Lib.hid (if_neg h)
    have hlt : 8 < s.size := by omega
    go_enter Try.func53, Try.ntmps53
    go_wp2
    go_ret
    exact ⟨by rw [HE.out]; rfl, Below.refl _ _⟩
end Go.Proofs.Ytmkchilhnmkhkaa
