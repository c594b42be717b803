/- Merged texts: InoSizes, MarkAt, WrImpl, OkFits, SrcRd, LnkImpl, LnkImplB, UsrImpl, NameIn, DepImpl, RangeImpl, NumImpl, NumImplB, RecImpl, PagesImpl, FileImpl, NameImpl, WordImpl, EntImpl, PrevMath, DirImpl, BodyImpl, Assert. -/
import Derived.Test.YtmkchilhnmkhkabGreatP15ZC
import Derived.Test.YtmkchilhnmkhkabGreatRows
import Derived.WalkKit
import Derived.WalkSpells
import Derived.RowKit3
import Derived.Lib.Hide
import Derived.WalkLawsBesides
import Derived.Deep.RegionLaw
namespace Go.Proofs.YtmkchilhnmkhkabGreat
open Go.RowKit Go.Proofs.YtmkchilhnmkhkabGreat.Parts Go.Proofs.YtmkchilhnmkhkabGreat.Hexa Go.Proofs.YtmkchilhnmkhkabGreat.Byt

theorem headB_size {n : InoR} (_h : InoOk n) : (headB n).size = 8 := by
  unfold headB wordB
  have e1 : (numTextB n.kd 1).size ≤ 1 := by rcases numTextB_size n.kd 1 with e | e <;> rw [e] <;> decide
  have e2 : (numTextB n.sz 2).size ≤ 2 := by rcases numTextB_size n.sz 2 with e | e <;> rw [e] <;> decide
  have e3 : (numTextB n.gn 2).size ≤ 2 := by rcases numTextB_size n.gn 2 with e | e <;> rw [e] <;> decide
  have e4 : (numTextB n.kd 1 ++ numTextB n.sz 2 ++ numTextB n.gn 2).size ≤ 5 := by rw [ByteArray.size_append, ByteArray.size_append]; omega
  rw [if_pos (by omega), ByteArray.size_append, longB_size]
  omega
theorem keyB_size {n : InoR} (h : InoOk n) : (wordB n.key).size = 8 := by
  have e : n.key.size ≤ 8 := by
    rcases h with ⟨_, ⟨_, h⟩ | ⟨_, h⟩ | ⟨_, h⟩⟩
    · have := h.2.1; omega
    · have := h.2.1; omega
    · have := h.2.1; omega
  unfold wordB
  rw [if_pos e, ByteArray.size_append, longB_size]
  omega
theorem getD_mem_i {α : Type} [Inhabited α] (L : List α) {x : α} (h : x ∈ L) : ∃ j, j < L.length ∧ x = L.getD j default := by
  obtain ⟨j, hj, e⟩ := List.getElem_of_mem h
  exact ⟨j, hj, by rw [← e]; simp [List.getD, hj]⟩
theorem inoWords_sizes {n : InoR} {x : ByteArray} (h : x ∈ inoWordsB n) : x.size = 8 := by
  by_cases hn : InoOk n
  · rw [inoWords_yes hn] at h
    unfold fillTo wordsI at h
    simp only [List.mem_append, List.mem_cons, List.not_mem_nil, or_false, List.mem_map, List.mem_replicate] at h
    rcases h with (((rfl | rfl) | ⟨r, hr, rfl⟩) | ⟨r, hr, rfl⟩) | ⟨_, rfl⟩
    · exact headB_size hn
    · exact keyB_size hn
    · obtain ⟨j, hj, rfl⟩ := getD_mem_i _ hr
      rcases hn with ⟨_, ⟨_, h⟩ | ⟨_, h⟩ | ⟨_, h⟩⟩
      · have := h.2.2.1; omega
      · exact recWord_size (h.2.2.2.2 j hj).1
      · have := h.2.2.1; omega
    · obtain ⟨j, hj, rfl⟩ := getD_mem_i _ hr
      rcases hn with ⟨_, ⟨_, h⟩ | ⟨_, h⟩ | ⟨_, h⟩⟩
      · have := h.2.2.2; omega
      · have := h.2.2.2.1; omega
      · exact entryWord_size (h.2.2.2.2 j hj).1
    · exact longB_size 8 0
  · rw [inoWords_no hn] at h
    cases h
end Go.Proofs.YtmkchilhnmkhkabGreat
namespace Go.Proofs.YtmkchilhnmkhkabGreat
open Go.RowKit Go.Proofs.YtmkchilhnmkhkabGreat.Parts Go.Proofs.YtmkchilhnmkhkabGreat.Hexa

theorem ret_i64m {a b : Int} (h : a = b) : Ending.returned (.int .i64 a) = .returned (.int .i64 b) := by rw [h]
theorem markText_n (i : Int) (k : Nat) (w : World) (h : i = k) (h0 : 0 < k) (hk : k ≤ 100000000) :
    Calls Tryz.prog 36 #[.int .i64 i] w fun e w' => e = .returned (.string (markT k)) ∧ Below w.heap.size w w' := by
  subst h; exact markText_any k w h0 hk
end Go.Proofs.YtmkchilhnmkhkabGreat
namespace Go.Proofs.YtmkchilhnmkhkabGreat
open Go.RowKit Go.Proofs.YtmkchilhnmkhkabGreat.Parts Go.Proofs.YtmkchilhnmkhkabGreat.Hexa Go.Proofs.YtmkchilhnmkhkabGreat.Byt

theorem SrcE.apart {α : Type} [Inhabited α] {E : Enc α} {w w' : World} {a : Option Addr} {n : Nat} {L : List α} {v : Value} (h : SrcE E w a n L) (hb : Apart v w w') (hB : ∀ p, a = some p → v.ownBlock ≠ some p.block) : SrcE E w' a n L :=
  ⟨h.len, fun j hj => by
    obtain ⟨g, off, e, hg, c⟩ := h.cell j hj
    refine ⟨g, off, e, Nat.lt_of_lt_of_le hg hb.size, fun o u hu => ?_⟩
    rw [← c o u hu]
    exact World.cell?_of_block (w := w) (hb.block g hg (hB _ e))⟩
/-- What appendWrites gives. -/
def GivesW (B : Nat) (v : Value) (L : List WriteR) (w : World) (e : Ending) (w' : World) : Prop :=
  ∃ v', e = .returned v' ∧ w'.ownsRow B 62 2 v' L.length (cellsE encW L) ∧ Apart v w w' ∧ (∀ g, v'.ownBlock = some g → v.ownBlock = some g ∨ w.heap.size ≤ g) ∧ Below B w w'
set_option maxRecDepth 100000 in
set_option maxHeartbeats 4000000 in
theorem implAppW_any (v : Value) (L : List WriteR) (B : Nat) (a0 : Int) (aw : Option Addr) (nw cw : Nat) (ws : List ByteArray) (w : World) (hown : w.ownsRow B 62 2 v L.length (cellsE encW L)) (hB : B ≤ w.heap.size)
    (hs : SrcT w aw nw ws) (hL : L.length ≤ 100000) (hnw : nw ≤ 100000) (ha : -1 ≤ a0 ∧ a0 ≤ 2000) (hne : ∀ p, aw = some p → v.ownBlock ≠ some p.block) :
    Calls Tryz.prog 26 #[v, .int .i64 a0, .slice aw nw cw] w (GivesW B v (L ++ wrs a0 ws) w) := by
  have HO := Lib.hid hown
  have HS := Lib.hid hs
  have HN := Lib.hid hs.len
  have HNE := Lib.hid hne
  obtain ⟨ha0, ha1⟩ := ha
  have HBB := Lib.hid hB
  clear hown hs hne hB
  go_enter Tryz.func26, Tryz.ntmps26
  go_wp2
  go_loopw [0, 11] (fun uv kv wr => ∃ (k : Nat), k ≤ nw ∧ kv = .int .i64 k ∧ Hid (wr.ownsRow B 62 2 uv (L.length + k) (cellsE encW (L ++ wrsN a0 ws k))) ∧ Hid (Apart v w wr) ∧ Hid (∀ g, uv.ownBlock = some g → v.ownBlock = some g ∨ w.heap.size ≤ g) ∧ Below B w wr) (fun _ kv _ => nw - (intOf kv).toNat)
  case atStart => exact ⟨0, Nat.zero_le _, rfl, Lib.hid (by rw [show wrsN a0 ws 0 = [] from rfl, List.append_nil]; exact HO.out), Lib.hid (Apart.of_below (Below.refl _ _)), Lib.hid (fun g hg => .inl hg), Below.refl _ _⟩
  case round =>
    clear HO
    obtain ⟨k, hk, rfl, HW, HA, HU, hbel⟩ := hrel
    obtain ⟨u, hu⟩ : ∃ u, u = u0 := ⟨_, rfl⟩
    rw [← hu] at HW HU ⊢
    clear hu
    by_cases hlt : k < nw
    · have HSr := Lib.hid (HS.out.apart HA.out HNE.out)
      obtain ⟨g, off, ha2, hg, d0⟩ := srcT_at HSr.out k hlt
      subst ha2
      have HN1 := Lib.hid (wrsN_succ a0 ws k)
      obtain ⟨s, hs⟩ : ∃ s, ws.getD k default = s := ⟨_, rfl⟩
      rw [hs] at d0 HN1
      clear hs
      have hr := appW1 wr 29 B u (L.length + k) (L ++ wrsN a0 ws k) HW.out (by have := HBB.out; have := hbel.size; omega) ⟨a0 + (k : Int), s⟩ (by omega)
      go_wp2_with (at_builtin; refine wpList_appE rfl _ _ _ _ rfl _ _ rfl rfl hr ?_; clear hr; intro v' w2 h1 h2 h3)
      have HW2 : Hid (w2.ownsRow B 62 2 v' (L.length + (k + 1)) (cellsE encW (L ++ wrsN a0 ws (k + 1)))) := Lib.hid (by rw [HN1.out, ← List.append_assoc, ← Nat.add_assoc]; exact h1)
      have hba := below_bk wr (.cells #[.int .i64 (a0 + (k : Int)), .string s] 62)
      have HA2 : Hid (Apart v w w2) := Lib.hid ⟨Nat.le_trans HA.out.size (Nat.le_trans hba.size h2.size), fun q hq hne => by
        rw [h2.block q (by have := HA.out.size; have := hba.size; omega) (fun e => by
          rcases HU.out q e.symm with h | h
          · exact hne h
          · omega), hba.block q (by have := HA.out.size; omega)]
        exact HA.out.block q hq hne⟩
      have HU2 : Hid (∀ q, v'.ownBlock = some q → v.ownBlock = some q ∨ w.heap.size ≤ q) := Lib.hid (fun q hq => by
        rcases h3 with h3 | h3
        · exact HU.out q (h3.symm.trans hq)
        · rw [h3] at hq
          have e : (wr.alloc (.cells #[.int .i64 (a0 + (k : Int)), .string s] 62)).heap.size = q := Option.some.inj hq
          have := HA.out.size
          have := hba.size
          exact .inr (by omega))
      have hb2 : Below B w w2 := (hbel.trans (hba.mono (by have := HBB.out; have := hbel.size; omega))).grown h2 (by have := HBB.out; have := hbel.size; have := hba.size; omega) (fun q hq => (HW.out.lt q hq).1)
      clear h1 h2 h3 hba d0
      go_wp2
      go_roundw
      case rel => exact ⟨k + 1, by omega, by go_num, HW2, HA2, HU2, hb2⟩
      case measure => (simp [intOf]; try omega)
    · obtain rfl : k = nw := by omega
      have HF : Hid (wr.ownsRow B 62 2 u (L ++ wrs a0 ws).length (cellsE encW (L ++ wrs a0 ws))) := Lib.hid (by
        have h9 := HW.out
        unfold wrs
        rw [HN.out, List.length_append, wrsN_len]
        exact h9)
      go_wp2
      go_ret
      exact ⟨_, rfl, HF.out, HA.out, HU.out, hbel⟩
end Go.Proofs.YtmkchilhnmkhkabGreat
namespace Go.Proofs.YtmkchilhnmkhkabGreat
open Go.RowKit Go.Proofs.YtmkchilhnmkhkabGreat.Parts

/-- How great an inode's parts are. -/
theorem ino_fits {x : InoR} (h : szL (cIno.cels x) ≤ 1048576) (ht : TyL (cIno.cels x)) : (-9223372036854775808 ≤ x.sz ∧ x.sz ≤ 9223372036854775807) ∧ x.R.length ≤ 1048576 ∧ x.E.length ≤ 1048576 ∧ FitRec x.R x.R.length 2000000 ∧ FitEntry x.E x.E.length 2000000 := by
  rw [cIno_sz] at h
  have h1 := len_sz cRec x.R
  have h2 := len_sz cEntry x.E
  obtain ⟨_, t1, _, _, _, _, _⟩ := ht
  refine ⟨t1, by omega, by omega, fun j hj => ?_, fun j hj => ?_⟩
  · have h3 := szL_at cRec x.R j hj
    rw [cRec_sz] at h3
    have := sz_row' cRec x.R
    omega
  · have h3 := szL_at cEntry x.E j hj
    rw [cEntry_sz] at h3
    have := sz_row' cEntry x.E
    omega
theorem part_ino {p : PartR} (hz : szL (cPart.cels p) ≤ 1048576) : p.ino.length ≤ 1048576 ∧ ∀ k, k < p.ino.length → szL (cIno.cels (p.ino.getD k default)) ≤ 1048576 := by
  rw [cPart_sz] at hz
  have h1 := sz_row' cIno p.ino
  exact ⟨by omega, fun k hk => by have := szL_at cIno p.ino k hk; omega⟩
end Go.Proofs.YtmkchilhnmkhkabGreat
namespace Go.Proofs.YtmkchilhnmkhkabGreat
open Go.RowKit Go.Proofs.YtmkchilhnmkhkabGreat.Parts

theorem srcEntry_of_rd {w : World} {L : List EntryR} {a : Option Addr} {n c : Nat} (h : (celRow cEntry L).Rd w (.slice a n c)) : SrcEntry w a n L := by
  obtain ⟨_, _, _, hv, hn⟩ := row_form h
  cases hv
  refine ⟨hn, fun j hj => ?_⟩
  obtain ⟨g, off, ha, hg, q0, q1⟩ := cEntry_at h j hj
  refine ⟨g, off, ha, hg, fun o v hv => ?_⟩
  match o, hv with
  | 0, hv => cases hv; exact q0
  | 1, hv => cases hv; exact q1
theorem srcRec_of_rd {w : World} {L : List RecR} {a : Option Addr} {n c : Nat} (h : (celRow cRec L).Rd w (.slice a n c)) : SrcRec w a n L := by
  obtain ⟨_, _, _, hv, hn⟩ := row_form h
  cases hv
  refine ⟨hn, fun j hj => ?_⟩
  obtain ⟨g, off, ha, hg, q0, q1, q2⟩ := cRec_at h j hj
  refine ⟨g, off, ha, hg, fun o v hv => ?_⟩
  match o, hv with
  | 0, hv => cases hv; exact q0
  | 1, hv => cases hv; exact q1
  | 2, hv => cases hv; exact q2

end Go.Proofs.YtmkchilhnmkhkabGreat
namespace Go.Proofs.YtmkchilhnmkhkabGreat
open Go.RowKit Go.Proofs.YtmkchilhnmkhkabGreat.Parts Go.Proofs.YtmkchilhnmkhkabGreat.Hexa

/-- Rows of plain cells, as rows of trees. -/
theorem own_ents {w : World} : ∀ L : List EntryR, OwnL w (celsE cEntry L) [] (cellsE encEntry L)
  | [] => ⟨rfl, rfl⟩
  | _ :: r => ⟨_, _, [], [], rfl, rfl, ⟨rfl, rfl⟩, _, _, [], [], rfl, rfl, ⟨rfl, rfl⟩, own_ents r⟩
theorem own_recs {w : World} : ∀ L : List RecR, OwnL w (celsE cRec L) [] (cellsE encRec L)
  | [] => ⟨rfl, rfl⟩
  | _ :: r => ⟨_, _, [], [], rfl, rfl, ⟨rfl, rfl⟩, _, _, [], [], rfl, rfl, ⟨rfl, rfl⟩, _, _, [], [], rfl, rfl, ⟨rfl, rfl⟩, own_recs r⟩
/-- A slice of elements of several cells appended to a row of the call's own. -/
theorem appS {α : Type} [Inhabited α] (E : Enc α) (t e : TypeId) (bytes : Nat) (z : Value) (i0 : TypeInfo) (hu : Tryz.prog.underlying t = some (.slice e)) (hi : Tryz.prog.info? e = some i0) (hz0 : i0.zero = some z) (hz1 : i0.size = E.k) (hz2 : i0.bytes = bytes) (hzz : z.cells.size = E.k) (hk0 : 0 < E.k) (hb : bytes ≤ 1000)
    (h1 : ∀ L : List α, ∀ v ∈ cellsE E L, v.oneCell' = true)
    (w : World) (ty : TypeId) (B : Nat) (v : Value) (n : Nat) (L : List α) (hown : w.ownsRow B e E.k v n (cellsE E L)) (hB : B ≤ w.heap.size) (a : Option Addr) (m c : Nat) (M : List α) (hs : SrcE E w a m M) (hnm : n + m ≤ 1000000000) :
    AppE Tryz.prog #[t, t] ty #[v, .slice a m c] w B e E.k (n + m) (cellsE E (L ++ M)) v := by
  rw [cellsE_append]
  cases a with
  | none =>
    have hm0 : m = 0 := by
      rcases Nat.eq_zero_or_pos m with h | h
      · exact h
      · obtain ⟨g, off, e, _⟩ := hs.cell 0 h; cases e
    subst hm0
    have hM : M = [] := List.length_eq_zero_iff.1 hs.len
    subst hM
    exact ⟨v, w, run_append_nothing w B _ ty _ i0 E.k hu hi v n c _ hown, by simpa [cellsE] using hown, ⟨rfl, rfl, rfl, Nat.le_refl _, fun _ _ _ => rfl⟩, .inl rfl⟩
  | some p =>
    have hbytes : (n + m) * bytes ≤ 1000000000 * 1000 := Nat.mul_le_mul hnm hb
    obtain ⟨v', w', hr, h2, h3, _, h5⟩ := run_append_own_at (P := Tryz.prog) w B t ty e i0 _ E.k bytes hu hi hz0 hz1 hz2 hzz hk0 v n _ hown p m c (cellsE E M) (by rw [cellsE_length, hs.len]) (hs.news hk0) (h1 M) (by unfold maxLen; omega) (by omega) hB
    exact ⟨v', w', hr, h2, h3, h5⟩
theorem appEntS (w : World) (ty : TypeId) (B : Nat) (v : Value) (n : Nat) (L : List EntryR) (hown : w.ownsRow B 77 2 v n (cellsE encEntry L)) (hB : B ≤ w.heap.size) (a : Option Addr) (m c : Nat) (M : List EntryR) (hs : SrcEntry w a m M) (hnm : n + m ≤ 1000000000) :
    AppE Tryz.prog #[55, 55] ty #[v, .slice a m c] w B 77 2 (n + m) (cellsE encEntry (L ++ M)) v := by
  obtain ⟨i0, hi, hz0, hz1, hz2⟩ := info_parts infoEntryD
  exact appS encEntry _ _ 24 _ i0 Tryz.underlying55 hi hz0 hz1 hz2 rfl (by decide) (by decide) cellsEntry_one w ty B v n L hown hB a m c M hs hnm
theorem appRecS (w : World) (ty : TypeId) (B : Nat) (v : Value) (n : Nat) (L : List RecR) (hown : w.ownsRow B 94 3 v n (cellsE encRec L)) (hB : B ≤ w.heap.size) (a : Option Addr) (m c : Nat) (M : List RecR) (hs : SrcRec w a m M) (hnm : n + m ≤ 1000000000) :
    AppE Tryz.prog #[54, 54] ty #[v, .slice a m c] w B 94 3 (n + m) (cellsE encRec (L ++ M)) v := by
  obtain ⟨i0, hi, hz0, hz1, hz2⟩ := info_parts infoRecD
  exact appS encRec _ _ 32 _ i0 Tryz.underlying54 hi hz0 hz1 hz2 rfl (by decide) (by decide) cellsRec_one w ty B v n L hown hB a m c M hs hnm

def GivesEnts (L : List EntryR) (w : World) (e : Ending) (w' : World) : Prop :=
  ∃ v, e = .returned v ∧ w'.ownsRow w.heap.size 77 2 v L.length (cellsE encEntry L) ∧ Below w.heap.size w w'
def GivesRecs (L : List RecR) (w : World) (e : Ending) (w' : World) : Prop :=
  ∃ v, e = .returned v ∧ w'.ownsRow w.heap.size 94 3 v L.length (cellsE encRec L) ∧ Below w.heap.size w w'

set_option maxRecDepth 100000 in
set_option maxHeartbeats 2000000 in
theorem implEnts_any (p : PartR) (a1 : Option Addr) (c1 : Nat) (a2 : Option Addr) (c2 : Nat) (w : World) (h2 : (celRow cIno p.ino).Rd w (.slice a2 p.ino.length c2)) (hz : szL (cPart.cels p) ≤ 100000000) :
    Calls Tryz.prog 85 #[.agg #[.int .i64 p.ser, .slice a1 p.st.length c1, .slice a2 p.ino.length c2]] w (GivesEnts (entsOf p.ino) w) := by
  have B0 := Lib.hid (below_bk w (.cells #[.int .i64 p.ser, .slice a1 p.st.length c1, .slice a2 p.ino.length c2] 35))
  have HS := Lib.hid h2
  rw [cPart_sz] at hz
  have hz1 : p.ino.length + szL (celsE cIno p.ino) ≤ 100000000 := by have := sz_row cIno p.ino; omega
  have HE : Hid (∀ k, (entsOf (p.ino.take k)).length ≤ 100000000) := Lib.hid (fun k => by have := ents_take p.ino k; omega)
  have HY : Hid (∀ k, k < p.ino.length → (p.ino.getD k default).E.length ≤ 100000000) := Lib.hid (fun k hk => by
    have h3 := szL_at cIno p.ino k hk
    rw [cIno_sz] at h3
    have := len_sz cEntry (p.ino.getD k default).E
    omega)
  have hn : p.ino.length ≤ 100000000 := by omega
  clear h2 hz hz1
  have HO : Hid ((w.alloc (.cells #[.int .i64 p.ser, .slice a1 p.st.length c1, .slice a2 p.ino.length c2] 35)).ownsRow w.heap.size 77 2 (.slice none 0 0) 0 (cellsE encEntry [])) := Lib.hid (World.ownsRow_nil _ _ _ _)
  go_enter Tryz.func85, Tryz.ntmps85
  go_wp2
  go_loopw [3, 9] (fun ev kv wr => ∃ (k m : Nat), k ≤ p.ino.length ∧ kv = .int .i64 k ∧ m ≤ 100000000 ∧ Hid (m = (entsOf (p.ino.take k)).length) ∧ Hid (wr.ownsRow w.heap.size 77 2 ev m (cellsE encEntry (entsOf (p.ino.take k)))) ∧ Below w.heap.size w wr) (fun _ kv _ => p.ino.length - (intOf kv).toNat)
  case atStart => exact ⟨0, 0, Nat.zero_le _, rfl, by omega, Lib.hid rfl, HO, B0.out⟩
  case round =>
    clear HO
    obtain ⟨k, m, hk, rfl, hm, HM, HW, hbel⟩ := hrel
    obtain ⟨v, hv⟩ : ∃ v, v = u3 := ⟨_, rfl⟩
    rw [← hv] at HW ⊢
    clear hv
    by_cases hlt : k < p.ino.length
    · have HN := Lib.hid (entsOf_next hlt)
      have HE1 := Lib.hid (HE.out (k + 1))
      have hy := HY.out k hlt
      obtain ⟨g, off, a4, c4, a5, c5, rfl, hg, d0, d1, d2, d3, d4, d5, r4, r5⟩ := cIno_at (Cel.Rd.later hbel _ _ HS.out) k hlt
      obtain ⟨x, hx⟩ : ∃ x, p.ino.getD k default = x := ⟨_, rfl⟩
      rw [hx] at d0 d1 d2 d3 d4 d5 r4 r5 HN hy
      obtain ⟨kd, hkd0⟩ : ∃ y, x.kd = y := ⟨_, rfl⟩
      rw [hkd0] at d0
      have HK0 := Lib.hid hkd0
      clear hkd0 hx r4
      have hb1 := below_bk wr (.cells #[.int .i64 kd, .int .i64 x.sz, .int .i64 x.gn, .string x.key, .slice a4 x.R.length c4, .slice a5 x.E.length c5] 57)
      have T1 := Lib.hid (Bk.alloc wr #[.int .i64 kd, .int .i64 x.sz, .int .i64 x.gn, .string x.key, .slice a4 x.R.length c4, .slice a5 x.E.length c5] 57)
      have HW1 := Lib.hid (own_below HW.out hb1)
      have HR := Lib.hid (srcEntry_of_rd (Cel.Rd.later hb1 _ _ r5))
      have B1 : Hid (Below w.heap.size w (wr.alloc (.cells #[.int .i64 kd, .int .i64 x.sz, .int .i64 x.gn, .string x.key, .slice a4 x.R.length c4, .slice a5 x.E.length c5] 57))) := Lib.hid (hbel.trans (hb1.mono hbel.size))
      clear HW hb1 r5
      have t0 := T1.out.cell (j := 0) rfl
      have t5 := T1.out.cell (j := 5) rfl
      by_cases hkd : kd = 2
      · subst hkd
        have HL : Hid (m + x.E.length = (entsOf (p.ino.take (k + 1))).length) := Lib.hid (by rw [HN.out, dirE_yes HK0.out, List.length_append, ← HM.out])
        have hm2 : m + x.E.length ≤ 100000000 := by have := HL.out; have := HE1.out; omega
        have hr := appEntS _ 55 w.heap.size v m (entsOf (p.ino.take k)) HW1.out B1.out.size a5 x.E.length c5 x.E HR.out (by omega)
        go_wp2_with (at_builtin; refine wpList_appE rfl _ _ _ _ rfl _ _ rfl rfl hr ?_; clear hr; intro v' w2 h1 h2 h3)
        have HW2 : Hid (w2.ownsRow w.heap.size 77 2 v' (m + x.E.length) (cellsE encEntry (entsOf (p.ino.take (k + 1))))) := Lib.hid (by rw [HN.out, dirE_yes HK0.out]; exact h1)
        have B2 : Below w.heap.size w w2 := B1.out.grown h2 B1.out.size (fun q hq => (HW1.out.lt q hq).1)
        clear h1 h2 h3 d0 d1 d2 d3 d4 d5 t0 t5
        go_wp2
        go_roundw
        case rel => exact ⟨k + 1, m + x.E.length, by omega, by go_num, hm2, HL, HW2, B2⟩
        case measure => (simp [intOf]; try omega)
      · have HL : Hid (m = (entsOf (p.ino.take (k + 1))).length) := Lib.hid (by rw [HN.out, dirE_no (by rw [HK0.out]; exact hkd), List.append_nil, ← HM.out])
        have HW2 : Hid (Hid ((wr.alloc (.cells #[.int .i64 kd, .int .i64 x.sz, .int .i64 x.gn, .string x.key, .slice a4 x.R.length c4, .slice a5 x.E.length c5] 57)).ownsRow w.heap.size 77 2 v m (cellsE encEntry (entsOf (p.ino.take (k + 1)))))) := Lib.hid (Lib.hid (by rw [HN.out, dirE_no (by rw [HK0.out]; exact hkd), List.append_nil]; exact HW1.out))
        go_wp2
        go_roundw
        case rel => exact ⟨k + 1, m, by omega, by go_num, hm, HL, HW2.out, B1.out⟩
        case measure => (simp [intOf]; try omega)
    · obtain rfl : k = p.ino.length := by omega
      have h9 := HW.out
      have h8 := HM.out
      rw [List.take_length] at h9 h8
      have H9 := Lib.hid h9
      have H8 := Lib.hid h8
      clear h9 h8
      go_wp2
      go_ret
      exact ⟨_, rfl, by rw [← H8.out]; exact H9.out, hbel⟩
set_option maxRecDepth 100000 in
set_option maxHeartbeats 2000000 in
theorem implRecs_any (p : PartR) (a1 : Option Addr) (c1 : Nat) (a2 : Option Addr) (c2 : Nat) (w : World) (h2 : (celRow cIno p.ino).Rd w (.slice a2 p.ino.length c2)) (hz : szL (cPart.cels p) ≤ 100000000) :
    Calls Tryz.prog 87 #[.agg #[.int .i64 p.ser, .slice a1 p.st.length c1, .slice a2 p.ino.length c2]] w (GivesRecs (recsOf p.ino) w) := by
  have B0 := Lib.hid (below_bk w (.cells #[.int .i64 p.ser, .slice a1 p.st.length c1, .slice a2 p.ino.length c2] 35))
  have HS := Lib.hid h2
  rw [cPart_sz] at hz
  have hz1 : p.ino.length + szL (celsE cIno p.ino) ≤ 100000000 := by have := sz_row cIno p.ino; omega
  have HE : Hid (∀ k, (recsOf (p.ino.take k)).length ≤ 100000000) := Lib.hid (fun k => by have := recs_take p.ino k; omega)
  have HY : Hid (∀ k, k < p.ino.length → (p.ino.getD k default).R.length ≤ 100000000) := Lib.hid (fun k hk => by
    have h3 := szL_at cIno p.ino k hk
    rw [cIno_sz] at h3
    have := len_sz cRec (p.ino.getD k default).R
    omega)
  have hn : p.ino.length ≤ 100000000 := by omega
  clear h2 hz hz1
  have HO : Hid ((w.alloc (.cells #[.int .i64 p.ser, .slice a1 p.st.length c1, .slice a2 p.ino.length c2] 35)).ownsRow w.heap.size 94 3 (.slice none 0 0) 0 (cellsE encRec [])) := Lib.hid (World.ownsRow_nil _ _ _ _)
  go_enter Tryz.func87, Tryz.ntmps87
  go_wp2
  go_loopw [3, 9] (fun ev kv wr => ∃ (k m : Nat), k ≤ p.ino.length ∧ kv = .int .i64 k ∧ m ≤ 100000000 ∧ Hid (m = (recsOf (p.ino.take k)).length) ∧ Hid (wr.ownsRow w.heap.size 94 3 ev m (cellsE encRec (recsOf (p.ino.take k)))) ∧ Below w.heap.size w wr) (fun _ kv _ => p.ino.length - (intOf kv).toNat)
  case atStart => exact ⟨0, 0, Nat.zero_le _, rfl, by omega, Lib.hid rfl, HO, B0.out⟩
  case round =>
    clear HO
    obtain ⟨k, m, hk, rfl, hm, HM, HW, hbel⟩ := hrel
    obtain ⟨v, hv⟩ : ∃ v, v = u3 := ⟨_, rfl⟩
    rw [← hv] at HW ⊢
    clear hv
    by_cases hlt : k < p.ino.length
    · have HN := Lib.hid (recsOf_next hlt)
      have HE1 := Lib.hid (HE.out (k + 1))
      have hy := HY.out k hlt
      obtain ⟨g, off, a4, c4, a5, c5, rfl, hg, d0, d1, d2, d3, d4, d5, r4, r5⟩ := cIno_at (Cel.Rd.later hbel _ _ HS.out) k hlt
      obtain ⟨x, hx⟩ : ∃ x, p.ino.getD k default = x := ⟨_, rfl⟩
      rw [hx] at d0 d1 d2 d3 d4 d5 r4 r5 HN hy
      obtain ⟨kd, hkd0⟩ : ∃ y, x.kd = y := ⟨_, rfl⟩
      rw [hkd0] at d0
      have HK0 := Lib.hid hkd0
      clear hkd0 hx r5
      have hb1 := below_bk wr (.cells #[.int .i64 kd, .int .i64 x.sz, .int .i64 x.gn, .string x.key, .slice a4 x.R.length c4, .slice a5 x.E.length c5] 57)
      have T1 := Lib.hid (Bk.alloc wr #[.int .i64 kd, .int .i64 x.sz, .int .i64 x.gn, .string x.key, .slice a4 x.R.length c4, .slice a5 x.E.length c5] 57)
      have HW1 := Lib.hid (own_below HW.out hb1)
      have HR := Lib.hid (srcRec_of_rd (Cel.Rd.later hb1 _ _ r4))
      have B1 : Hid (Below w.heap.size w (wr.alloc (.cells #[.int .i64 kd, .int .i64 x.sz, .int .i64 x.gn, .string x.key, .slice a4 x.R.length c4, .slice a5 x.E.length c5] 57))) := Lib.hid (hbel.trans (hb1.mono hbel.size))
      clear HW hb1 r4
      have t0 := T1.out.cell (j := 0) rfl
      have t5 := T1.out.cell (j := 4) rfl
      by_cases hkd : kd = 1
      · subst hkd
        have HL : Hid (m + x.R.length = (recsOf (p.ino.take (k + 1))).length) := Lib.hid (by rw [HN.out, filR_yes HK0.out, List.length_append, ← HM.out])
        have hm2 : m + x.R.length ≤ 100000000 := by have := HL.out; have := HE1.out; omega
        have hr := appRecS _ 54 w.heap.size v m (recsOf (p.ino.take k)) HW1.out B1.out.size a4 x.R.length c4 x.R HR.out (by omega)
        go_wp2_with (at_builtin; refine wpList_appE rfl _ _ _ _ rfl _ _ rfl rfl hr ?_; clear hr; intro v' w2 h1 h2 h3)
        have HW2 : Hid (w2.ownsRow w.heap.size 94 3 v' (m + x.R.length) (cellsE encRec (recsOf (p.ino.take (k + 1))))) := Lib.hid (by rw [HN.out, filR_yes HK0.out]; exact h1)
        have B2 : Below w.heap.size w w2 := B1.out.grown h2 B1.out.size (fun q hq => (HW1.out.lt q hq).1)
        clear h1 h2 h3 d0 d1 d2 d3 d4 d5 t0 t5
        go_wp2
        go_roundw
        case rel => exact ⟨k + 1, m + x.R.length, by omega, by go_num, hm2, HL, HW2, B2⟩
        case measure => (simp [intOf]; try omega)
      · have HL : Hid (m = (recsOf (p.ino.take (k + 1))).length) := Lib.hid (by rw [HN.out, filR_no (by rw [HK0.out]; exact hkd), List.append_nil, ← HM.out])
        have HW2 : Hid (Hid ((wr.alloc (.cells #[.int .i64 kd, .int .i64 x.sz, .int .i64 x.gn, .string x.key, .slice a4 x.R.length c4, .slice a5 x.E.length c5] 57)).ownsRow w.heap.size 94 3 v m (cellsE encRec (recsOf (p.ino.take (k + 1)))))) := Lib.hid (Lib.hid (by rw [HN.out, filR_no (by rw [HK0.out]; exact hkd), List.append_nil]; exact HW1.out))
        go_wp2
        go_roundw
        case rel => exact ⟨k + 1, m, by omega, by go_num, hm, HL, HW2.out, B1.out⟩
        case measure => (simp [intOf]; try omega)
    · obtain rfl : k = p.ino.length := by omega
      have h9 := HW.out
      have h8 := HM.out
      rw [List.take_length] at h9 h8
      have H9 := Lib.hid h9
      have H8 := Lib.hid h8
      clear h9 h8
      go_wp2
      go_ret
      exact ⟨_, rfl, by rw [← H8.out]; exact H9.out, hbel⟩
end Go.Proofs.YtmkchilhnmkhkabGreat
namespace Go.Proofs.YtmkchilhnmkhkabGreat
open Go.RowKit Go.Proofs.YtmkchilhnmkhkabGreat.Parts Go.Proofs.YtmkchilhnmkhkabGreat.Hexa


set_option maxRecDepth 100000 in
set_option maxHeartbeats 2000000 in
theorem implLinks_any (p : PartR) (a1 : Option Addr) (c1 : Nat) (a2 : Option Addr) (c2 : Nat) (i : Int) (w : World) (h2 : (celRow cIno p.ino).Rd w (.slice a2 p.ino.length c2)) (hz : szL (cPart.cels p) ≤ 100000000) :
    Calls Tryz.prog 101 #[.agg #[.int .i64 p.ser, .slice a1 p.st.length c1, .slice a2 p.ino.length c2], .int .i64 i] w (SaysI (cntI (entsOf p.ino) i : Nat) w) := by
  have B0 := Lib.hid (below_bk w (.cells #[.int .i64 p.ser, .slice a1 p.st.length c1, .slice a2 p.ino.length c2] 35))
  have T0 := Lib.hid (Bk.alloc w #[.int .i64 p.ser, .slice a1 p.st.length c1, .slice a2 p.ino.length c2] 35)
  have HS := Lib.hid h2
  have HZ := Lib.hid hz
  rw [cPart_sz] at hz
  have hl : (entsOf p.ino).length ≤ 100000000 := by have := sz_row cIno p.ino; have := ents_len p.ino; omega
  clear h2 hz
  have t0 := T0.out.cell (j := 0) rfl
  have t1 := T0.out.cell (j := 1) rfl
  have t2 := T0.out.cell (j := 2) rfl
  go_enter Tryz.func101, Tryz.ntmps101
  go_wp2_with fail
  refine (implEnts_any p a1 c1 a2 c2 _ (Cel.Rd.later B0.out _ _ HS.out) HZ.out).mono ?_
  rintro e w1 ⟨v, rfl, ho, hb⟩
  have B1 : Hid (Below w.heap.size w w1) := Lib.hid (B0.out.trans (hb.mono B0.out.size))
  obtain ⟨a, c, rfl, _⟩ := ownE_form ho
  have HR := Lib.hid (srcEntry_of_own ho)
  obtain ⟨M, hM⟩ : ∃ M, entsOf p.ino = M := ⟨_, rfl⟩
  rw [hM] at HR hl ⊢
  have HEQ := Lib.hid hM
  clear ho hb t0 t1 t2 hM
  go_wp2
  go_loopw [5, 11] (fun nv kv wr => ∃ (k m : Nat), k ≤ M.length ∧ kv = .int .i64 k ∧ nv = .int .i64 (m : Int) ∧ Hid (m = cntI (M.take k) i) ∧ m ≤ k ∧ Below w.heap.size w wr ∧ Below w1.heap.size w1 wr) (fun _ kv _ => M.length - (intOf kv).toNat)
  case atStart => exact ⟨0, 0, Nat.zero_le _, rfl, rfl, Lib.hid rfl, Nat.le_refl _, B1.out, Below.refl _ _⟩
  case round =>
    obtain ⟨k, m, hk, rfl, rfl, HM, hmk, hbel, hbl1⟩ := hrel
    by_cases hlt : k < M.length
    · obtain ⟨g, off, rfl, hg, d0, d1⟩ := srcEntry_later HR.out hbl1 (Nat.le_refl _) k hlt
      obtain ⟨x, hx⟩ : ∃ x, M.getD k default = x := ⟨_, rfl⟩
      rw [hx] at d0 d1
      have hb2 : Below w.heap.size w (wr.alloc (.cells #[.int .i64 x.f0, .string x.f1] 77)) := hbel.alloc hbel.size _
      have hb3 : Below w1.heap.size w1 (wr.alloc (.cells #[.int .i64 x.f0, .string x.f1] 77)) := hbl1.alloc hbl1.size _
      have t0 := (Bk.alloc wr #[.int .i64 x.f0, .string x.f1] 77).cell (j := 0) rfl
      by_cases hq : x.f0 = i
      · have HC : Hid (m + 1 = cntI (M.take (k + 1)) i) := Lib.hid (by rw [cntI_yes hlt (by rw [hx]; exact hq), ← HM.out])
        rw [hq] at d0 t0 hb2 hb3
        clear hx
        go_wp2
        go_roundw
        case rel => exact ⟨k + 1, m + 1, by omega, by go_num, by go_num, HC, by omega, hb2, hb3⟩
        case measure => (simp [intOf]; try omega)
      · have HC : Hid (m = cntI (M.take (k + 1)) i) := Lib.hid (by rw [cntI_no hlt (by rw [hx]; exact hq), ← HM.out])
        clear hx
        go_wp2
        go_roundw
        case rel => exact ⟨k + 1, m, by omega, by go_num, rfl, HC, by omega, hb2, hb3⟩
        case measure => (simp [intOf]; try omega)
    · obtain rfl : k = M.length := by omega
      have HE : Hid ((m : Int) = (cntI M i : Nat)) := Lib.hid (by have h9 := HM.out; rw [List.take_length] at h9; rw [h9])
      go_wp2
      go_ret
      exact ⟨ret_i64m (by rw [HEQ.out]; exact HE.out), hbel⟩
end Go.Proofs.YtmkchilhnmkhkabGreat
namespace Go.Proofs.YtmkchilhnmkhkabGreat
open Go.RowKit Go.Proofs.YtmkchilhnmkhkabGreat.Parts Go.Proofs.YtmkchilhnmkhkabGreat.Hexa


set_option maxRecDepth 100000 in
set_option maxHeartbeats 2000000 in
theorem implUsers_any (p : PartR) (a1 : Option Addr) (c1 : Nat) (a2 : Option Addr) (c2 : Nat) (i : Int) (w : World) (h2 : (celRow cIno p.ino).Rd w (.slice a2 p.ino.length c2)) (hz : szL (cPart.cels p) ≤ 100000000) (hi : -9223372036854775808 ≤ i ∧ i ≤ 9223372036854775807) (ht : ∀ r ∈ recsOf p.ino, -9223372036854775808 ≤ r.f0 ∧ r.f0 ≤ 9223372036854775807) :
    Calls Tryz.prog 88 #[.agg #[.int .i64 p.ser, .slice a1 p.st.length c1, .slice a2 p.ino.length c2], .int .i64 i] w (SaysI (cntP (recsOf p.ino) i : Nat) w) := by
  have B0 := Lib.hid (below_bk w (.cells #[.int .i64 p.ser, .slice a1 p.st.length c1, .slice a2 p.ino.length c2] 35))
  have T0 := Lib.hid (Bk.alloc w #[.int .i64 p.ser, .slice a1 p.st.length c1, .slice a2 p.ino.length c2] 35)
  have HS := Lib.hid h2
  have HZ := Lib.hid hz
  rw [cPart_sz] at hz
  have hl : (recsOf p.ino).length ≤ 100000000 := by have := sz_row cIno p.ino; have := recs_len p.ino; omega
  clear h2 hz
  have t0 := T0.out.cell (j := 0) rfl
  have t1 := T0.out.cell (j := 1) rfl
  have t2 := T0.out.cell (j := 2) rfl
  go_enter Tryz.func88, Tryz.ntmps88
  go_wp2_with fail
  refine (implRecs_any p a1 c1 a2 c2 _ (Cel.Rd.later B0.out _ _ HS.out) HZ.out).mono ?_
  rintro e w1 ⟨v, rfl, ho, hb⟩
  have B1 : Hid (Below w.heap.size w w1) := Lib.hid (B0.out.trans (hb.mono B0.out.size))
  obtain ⟨a, c, rfl, _⟩ := ownE_form ho
  have HR := Lib.hid (srcRec_of_own ho)
  obtain ⟨M, hM⟩ : ∃ M, recsOf p.ino = M := ⟨_, rfl⟩
  rw [hM] at HR hl ht ⊢
  have HT := Lib.hid ht
  clear ht
  obtain ⟨i0, i1⟩ := hi
  have HEQ := Lib.hid hM
  clear ho hb t0 t1 t2 hM
  go_wp2
  go_loopw [5, 11] (fun nv kv wr => ∃ (k m : Nat), k ≤ M.length ∧ kv = .int .i64 k ∧ nv = .int .i64 (m : Int) ∧ Hid (m = cntP (M.take k) i) ∧ m ≤ k ∧ Below w.heap.size w wr ∧ Below w1.heap.size w1 wr) (fun _ kv _ => M.length - (intOf kv).toNat)
  case atStart => exact ⟨0, 0, Nat.zero_le _, rfl, rfl, Lib.hid rfl, Nat.le_refl _, B1.out, Below.refl _ _⟩
  case round =>
    obtain ⟨k, m, hk, rfl, rfl, HM, hmk, hbel, hbl1⟩ := hrel
    by_cases hlt : k < M.length
    · obtain ⟨g, off, rfl, hg, d0, d1, d2⟩ := srcRec_later HR.out hbl1 (Nat.le_refl _) k hlt
      obtain ⟨x, hx⟩ : ∃ x, M.getD k default = x := ⟨_, rfl⟩
      rw [hx] at d0 d1 d2
      have hb2 : Below w.heap.size w (wr.alloc (.cells #[.int .i64 x.f0, .int .i64 x.f1, .string x.f2] 94)) := hbel.alloc hbel.size _
      have hb3 : Below w1.heap.size w1 (wr.alloc (.cells #[.int .i64 x.f0, .int .i64 x.f1, .string x.f2] 94)) := hbl1.alloc hbl1.size _
      have t0 := (Bk.alloc wr #[.int .i64 x.f0, .int .i64 x.f1, .string x.f2] 94).cell (j := 0) rfl
      have hxb : -9223372036854775808 ≤ x.f0 ∧ x.f0 ≤ 9223372036854775807 := by rw [← hx]; exact HT.out _ (by simp only [List.getD, List.getElem?_eq_getElem hlt, Option.getD_some]; exact List.getElem_mem _)
      obtain ⟨y, hy⟩ : ∃ y, x.f0 = y := ⟨_, rfl⟩
      rw [hy] at d0 t0 hb2 hb3 hxb
      by_cases hq : y = i + 1
      · have hgt : i < y := by omega
        have hsub : y - 1 = i := by omega
        have HC : Hid (m + 1 = cntP (M.take (k + 1)) i) := Lib.hid (by rw [cntP_yes hlt (by rw [hx, hy]; exact hq), ← HM.out])
        clear hx hy hq
        go_wp2
        go_roundw
        case rel => exact ⟨k + 1, m + 1, by omega, by go_num, by go_num, HC, by omega, hb2, hb3⟩
        case measure => (simp [intOf]; try omega)
      · have HC : Hid (m = cntP (M.take (k + 1)) i) := Lib.hid (by rw [cntP_no hlt (by rw [hx, hy]; exact hq), ← HM.out])
        have hne : i < y → ¬ (y - 1 = i) := by omega
        clear hx hy
        by_cases hgt : i < y
        · have hne := hne hgt
          go_wp2
          go_roundw
          case rel => exact ⟨k + 1, m, by omega, by go_num, rfl, HC, by omega, hb2, hb3⟩
          case measure => (simp [intOf]; try omega)
        clear hne
        go_wp2
        go_roundw
        case rel => exact ⟨k + 1, m, by omega, by go_num, rfl, HC, by omega, hb2, hb3⟩
        case measure => (simp [intOf]; try omega)
    · obtain rfl : k = M.length := by omega
      have HE : Hid ((m : Int) = (cntP M i : Nat)) := Lib.hid (by have h9 := HM.out; rw [List.take_length] at h9; rw [h9])
      go_wp2
      go_ret
      exact ⟨ret_i64m (by rw [HEQ.out]; exact HE.out), hbel⟩
end Go.Proofs.YtmkchilhnmkhkabGreat
namespace Go.Proofs.YtmkchilhnmkhkabGreat

/-- The name in the first entry of inode i. -/
def nameIn (M : List EntryR) (i : Int) : ByteArray := ((M.find? (fun e => e.f0 == i)).getD default).f1
theorem nameIn_at : ∀ {M : List EntryR} {i : Int} {j : Nat}, j < M.length → hasI (M.take j) i = false → (M.getD j default).f0 = i → nameIn M i = (M.getD j default).f1
  | e :: r, i, 0, _, _, h1 => by
    simp only [List.getD_cons_zero] at h1 ⊢
    unfold nameIn
    rw [List.find?_cons, show (e.f0 == i) = true by simpa using h1]
    rfl
  | e :: r, i, j + 1, hj, h, h1 => by
    unfold hasI at h
    rw [List.take_succ_cons, List.any_cons, Bool.or_eq_false_iff] at h
    have ih := nameIn_at (M := r) (i := i) (j := j) (by simpa using hj) h.2 (by simpa using h1)
    have h2 : nameIn (e :: r) i = nameIn r i := by
      unfold nameIn
      rw [List.find?_cons, h.1]
    rw [h2, ih]
    simp
end Go.Proofs.YtmkchilhnmkhkabGreat
namespace Go.Proofs.YtmkchilhnmkhkabGreat
open Go.RowKit Go.Proofs.YtmkchilhnmkhkabGreat.Parts Go.Proofs.YtmkchilhnmkhkabGreat.Hexa

/-- What linkTo tells. -/
def SaysLink (L : List InoR) (i : Int) (w : World) (e : Ending) (w' : World) : Prop :=
  ((aboveZ L i = -1 ∧ e = .returned (.tuple #[.int .i64 0, .string ⟨#[]⟩, .bool false])) ∨ ∃ q : Nat, q < L.length ∧ aboveZ L i = (q : Int) ∧ e = .returned (.tuple #[.int .i64 q, .string (nameIn (L.getD q default).E i), .bool true])) ∧ Below w.heap.size w w'
set_option maxRecDepth 100000 in
set_option maxHeartbeats 2000000 in
theorem implLink_any (p : PartR) (a1 : Option Addr) (c1 : Nat) (a2 : Option Addr) (c2 : Nat) (i : Int) (w : World) (h2 : (celRow cIno p.ino).Rd w (.slice a2 p.ino.length c2)) (hz : szL (cPart.cels p) ≤ 100000000) :
    Calls Tryz.prog 108 #[.agg #[.int .i64 p.ser, .slice a1 p.st.length c1, .slice a2 p.ino.length c2], .int .i64 i] w (SaysLink p.ino i w) := by
  have B0 := Lib.hid (below_bk w (.cells #[.int .i64 p.ser, .slice a1 p.st.length c1, .slice a2 p.ino.length c2] 35))
  have T0 := Lib.hid (Bk.alloc w #[.int .i64 p.ser, .slice a1 p.st.length c1, .slice a2 p.ino.length c2] 35)
  have HS := Lib.hid h2
  rw [cPart_sz] at hz
  have hn : p.ino.length ≤ 100000000 := by have := sz_row cIno p.ino; omega
  have HY : Hid (∀ k, k < p.ino.length → (p.ino.getD k default).E.length ≤ 100000000) := Lib.hid (fun k hk => by
    have h3 := szL_at cIno p.ino k hk
    rw [cIno_sz] at h3
    have := len_sz cEntry (p.ino.getD k default).E
    have := sz_row cIno p.ino
    omega)
  clear h2 hz
  have t2 := T0.out.cell (j := 2) rfl
  go_enter Tryz.func108, Tryz.ntmps108
  go_wp2
  clear t2
  go_loopw [14] (fun kv wr => ∃ (k : Nat), k ≤ p.ino.length ∧ kv = .int .i64 k ∧ Hid (∀ j, j < k → hasI (dirE (p.ino.getD j default)) i = false) ∧ Hid (Below w.heap.size w wr)) (fun kv _ => p.ino.length - (intOf kv).toNat)
  case atStart => exact ⟨0, Nat.zero_le _, rfl, Lib.hid (fun j hj => by omega), B0⟩
  case round =>
    clear B0 T0
    obtain ⟨k, hk, rfl, HM, HB0⟩ := hrel
    by_cases hlt : k < p.ino.length
    · have hy := HY.out k hlt
      have HA : Hid (hasI (dirE (p.ino.getD k default)) i = true → aboveZ p.ino i = (k : Int)) := Lib.hid (fun h => above_some hlt HM.out h)
      have HB : Hid (hasI (dirE (p.ino.getD k default)) i = false → ∀ j, j < k + 1 → hasI (dirE (p.ino.getD j default)) i = false) := Lib.hid (fun h j hj => by
        by_cases e : j = k
        · rw [e]; exact h
        · exact HM.out j (by omega))
      obtain ⟨g, off, a4, c4, a5, c5, rfl, hg, d0, d1, d2, d3, d4, d5, r4, r5⟩ := cIno_at (Cel.Rd.later HB0.out _ _ HS.out) k hlt
      obtain ⟨x, hx⟩ : ∃ x, p.ino.getD k default = x := ⟨_, rfl⟩
      rw [hx] at d0 d1 d2 d3 d4 d5 r5 hy HA HB
      have HX := Lib.hid hx
      obtain ⟨kd, hkd0⟩ : ∃ y, x.kd = y := ⟨_, rfl⟩
      rw [hkd0] at d0
      have HK0 := Lib.hid hkd0
      clear hkd0 hx r4
      have hbx := below_bk wr (.cells #[.int .i64 kd, .int .i64 x.sz, .int .i64 x.gn, .string x.key, .slice a4 x.R.length c4, .slice a5 x.E.length c5] 57)
      have T2 := Lib.hid (Bk.alloc wr #[.int .i64 kd, .int .i64 x.sz, .int .i64 x.gn, .string x.key, .slice a4 x.R.length c4, .slice a5 x.E.length c5] 57)
      have R5 := Lib.hid (Cel.Rd.later hbx _ _ r5)
      have B2 : Hid (Below w.heap.size w (wr.alloc (.cells #[.int .i64 kd, .int .i64 x.sz, .int .i64 x.gn, .string x.key, .slice a4 x.R.length c4, .slice a5 x.E.length c5] 57))) := Lib.hid (HB0.out.trans (hbx.mono HB0.out.size))
      clear hbx r5
      have t0 := T2.out.cell (j := 0) rfl
      have t5 := T2.out.cell (j := 5) rfl
      by_cases hkd : kd = 2
      · subst hkd
        have HD : Hid (dirE x = x.E) := Lib.hid (dirE_yes HK0.out)
        go_wp2
        clear t0 t5 d0 d1 d2 d3 d4 d5
        obtain ⟨W2, hW2⟩ : ∃ y, y = wr.alloc (.cells #[.int .i64 2, .int .i64 x.sz, .int .i64 x.gn, .string x.key, .slice a4 x.R.length c4, .slice a5 x.E.length c5] 57) := ⟨_, rfl⟩
        rw [← hW2] at B2 R5 ⊢
        clear hW2 T2
        go_loopw [25] (fun jv wq => ∃ (j : Nat), j ≤ x.E.length ∧ jv = .int .i64 j ∧ Hid (hasI (x.E.take j) i = false) ∧ Hid (Below w.heap.size w wq) ∧ Hid (Below W2.heap.size W2 wq)) (fun jv _ => x.E.length - (intOf jv).toNat)
        case atStart => exact ⟨0, Nat.zero_le _, rfl, Lib.hid rfl, B2, Lib.hid (Below.refl _ _)⟩
        case round =>
          clear HM HB0 B2
          obtain ⟨j, hj, rfl, HM', HB1, HB2⟩ := hrel
          by_cases hjt : j < x.E.length
          · obtain ⟨ge, oe, rfl, hge, q0, q1⟩ := cEntry_at (Cel.Rd.later HB2.out _ _ R5.out) j hjt
            have HN := Lib.hid (hasI_next (i := i) hjt)
            obtain ⟨ev, hev⟩ : ∃ e, x.E.getD j default = e := ⟨_, rfl⟩
            rw [hev] at q0 q1 HN
            have HEV := Lib.hid hev
            clear hev
            have HB3 : Hid (Below w.heap.size w (wr.alloc (.cells #[.int .i64 ev.f0, .string ev.f1] 77))) := Lib.hid (HB1.out.alloc HB1.out.size _)
            have HB4 : Hid (Below W2.heap.size W2 (wr.alloc (.cells #[.int .i64 ev.f0, .string ev.f1] 77))) := Lib.hid (HB2.out.alloc HB2.out.size _)
            by_cases hq : ev.f0 = i
            · have HC : Hid (aboveZ p.ino i = (k : Int)) := Lib.hid (HA.out (by rw [HD.out]; exact hasI_take (j := j + 1) (by rw [HN.out, hq]; simp)))
              have HNm : Hid (nameIn (p.ino.getD k default).E i = ev.f1) := Lib.hid (by rw [HX.out, nameIn_at hjt HM'.out (by rw [HEV.out]; exact hq), HEV.out])
              subst hq
              go_wp2
              go_region
              all_goals
                go_wp2
                refine bodyPost_ret (v := .tuple #[.int .i64 k, .string ev.f1, .bool true]) ?_ rfl ⟨.inr ⟨k, hlt, HC.out, by rw [HNm.out]⟩, by first | exact HB3.out | exact HB3.out.drew⟩
                simp [results, Tryz.results108, go_sem]
            · have HC : Hid (hasI (x.E.take (j + 1)) i = false) := Lib.hid (by rw [HN.out, HM'.out]; simpa using hq)
              go_wp2
              go_roundw
              case rel => exact ⟨j + 1, by omega, by go_num, HC, HB3, HB4⟩
              case measure => (simp [intOf]; try omega)
          · obtain rfl : j = x.E.length := by omega
            have HC := Lib.hid (HB.out (by have h9 := HM'.out; rw [List.take_length] at h9; rw [HD.out]; exact h9))
            go_wp2
            go_roundw
            case rel => exact ⟨k + 1, by omega, by go_num, HC, HB1⟩
            case measure => (simp [intOf]; try omega)
      · have HC := Lib.hid (HB.out (by rw [dirE_no (by rw [HK0.out]; exact hkd)]; rfl))
        go_wp2
        go_roundw
        case rel => exact ⟨k + 1, by omega, by go_num, HC, B2⟩
        case measure => (simp [intOf]; try omega)
    · obtain rfl : k = p.ino.length := by omega
      have HC := Lib.hid (above_none HM.out)
      go_wp2
      refine bodyPost_ret (v := .tuple #[.int .i64 0, .string ⟨#[]⟩, .bool false]) ?_ rfl ⟨.inl ⟨HC.out, rfl⟩, HB0.out⟩
      simp [results, Tryz.results108, go_sem]

set_option maxRecDepth 100000 in
set_option maxHeartbeats 2000000 in
theorem implDepth_any (p : PartR) (a1 : Option Addr) (c1 : Nat) (a2 : Option Addr) (c2 : Nat) (i : Int) (w : World) (h2 : (celRow cIno p.ino).Rd w (.slice a2 p.ino.length c2)) (hz : szL (cPart.cels p) ≤ 100000000) :
    Calls Tryz.prog 102 #[.agg #[.int .i64 p.ser, .slice a1 p.st.length c1, .slice a2 p.ino.length c2], .int .i64 i] w (SaysI (depthZ p.ino i) w) := by
  have B0 := Lib.hid (below_bk w (.cells #[.int .i64 p.ser, .slice a1 p.st.length c1, .slice a2 p.ino.length c2] 35))
  have T0 := Lib.hid (Bk.alloc w #[.int .i64 p.ser, .slice a1 p.st.length c1, .slice a2 p.ino.length c2] 35)
  have HS := Lib.hid h2
  have HZ := Lib.hid hz
  rw [cPart_sz] at hz
  have hn : p.ino.length ≤ 100000000 := by have := sz_row cIno p.ino; omega
  clear h2 hz
  obtain ⟨d, hd⟩ : ∃ d, depthZ p.ino i = d := ⟨_, rfl⟩
  rw [hd]
  have HD : Hid (depthGo p.ino (p.ino.length + 1) 0 i = d) := Lib.hid hd
  clear hd
  have t2 := T0.out.cell (j := 2) rfl
  go_enter Tryz.func102, Tryz.ntmps102
  go_wp2
  clear t2
  go_loopw [1, 13] (fun iv nv wr => ∃ (n : Nat) (z : Int), n ≤ p.ino.length + 1 ∧ nv = .int .i64 n ∧ iv = .int .i64 z ∧ Hid (depthGo p.ino (p.ino.length + 1 - n) n z = d) ∧ Below w.heap.size w wr ∧ Hid (Bk wr w.heap.size #[.int .i64 p.ser, .slice a1 p.st.length c1, .slice a2 p.ino.length c2] 35)) (fun _ nv _ => p.ino.length + 1 - (intOf nv).toNat)
  case atStart => exact ⟨0, i, Nat.zero_le _, rfl, rfl, HD, B0.out, T0⟩
  case round =>
    clear HD T0
    obtain ⟨n, z, hnn, rfl, rfl, HG, hbel, HT⟩ := hrel
    have t0 := HT.out.cell (j := 0) rfl
    have t1 := HT.out.cell (j := 1) rfl
    have t2 := HT.out.cell (j := 2) rfl
    by_cases hlt : n < p.ino.length + 1
    · have hd0 : decide ((n : Int) < (p.ino.length : Int) + 1) = true := decide_eq_true (by omega)
      have HG2 : Hid ((if z = 0 then (n : Int) else if aboveZ p.ino z < 0 then -1 else depthGo p.ino (p.ino.length + 1 - (n + 1)) (n + 1) (aboveZ p.ino z)) = d) := Lib.hid (by
        have h9 := HG.out
        rw [show p.ino.length + 1 - n = (p.ino.length + 1 - (n + 1)) + 1 by omega, depthGo] at h9
        exact h9)
      clear HG
      by_cases hz0 : z = 0
      · have HE : Hid ((n : Int) = d) := Lib.hid (by have h9 := HG2.out; rw [if_pos hz0] at h9; exact h9)
        subst hz0
        go_wp2
        go_ret
        exact ⟨ret_i64m HE.out, hbel⟩
      · go_wp2_with fail
        refine (implLink_any p a1 c1 a2 c2 z _ (Cel.Rd.later hbel _ _ HS.out) HZ.out).mono ?_
        rintro e w1 ⟨⟨hq, rfl⟩ | ⟨q, hql, hq, rfl⟩, hb⟩
        · have hb2 : Below w.heap.size w w1 := hbel.trans (hb.mono hbel.size)
          have HE : Hid (-1 = d) := Lib.hid (by have h9 := HG2.out; rw [if_neg hz0, hq, if_pos (by omega)] at h9; exact h9)
          clear hb hq t0 t1 t2
          go_wp2
          go_ret
          exact ⟨ret_i64m HE.out, hb2⟩
        · have hb2 : Below w.heap.size w w1 := hbel.trans (hb.mono hbel.size)
          have HT1 := Lib.hid (HT.out.later hb)
          have HE : Hid (depthGo p.ino (p.ino.length + 1 - (n + 1)) (n + 1) (q : Int) = d) := Lib.hid (by have h9 := HG2.out; rw [if_neg hz0, hq, if_neg (by omega)] at h9; exact h9)
          clear hb hq t0 t1 t2
          go_wp2
          go_roundw
          case rel => exact ⟨n + 1, (q : Int), by omega, by go_num, rfl, HE, hb2, HT1⟩
          case measure => (simp [intOf]; try omega)
    · obtain rfl : n = p.ino.length + 1 := by omega
      have HE : Hid (-1 = d) := Lib.hid (by have h9 := HG.out; rw [Nat.sub_self] at h9; exact h9)
      go_wp2
      go_ret
      exact ⟨ret_i64m HE.out, hbel⟩
end Go.Proofs.YtmkchilhnmkhkabGreat
namespace Go.Proofs.YtmkchilhnmkhkabGreat
open Go.RowKit

set_option maxRecDepth 100000 in
set_option maxHeartbeats 400000 in
theorem implIn_any (n a b : Int) (w : World) : Calls Tryz.prog 53 #[.int .i64 n, .int .i64 a, .int .i64 b] w fun e w' => e = .returned (.bool (decide (a ≤ n ∧ n ≤ b))) ∧ w' = w := by
  by_cases h1 : a ≤ n <;> by_cases h2 : n ≤ b
  all_goals
    go_enter Tryz.func53, Tryz.ntmps53
    go_wp2
    all_goals go_ret
    all_goals exact ⟨by simp [h1, h2], rfl⟩
theorem implIn_yes {n a b : Int} (w : World) (h : a ≤ n ∧ n ≤ b) : Calls Tryz.prog 53 #[.int .i64 n, .int .i64 a, .int .i64 b] w fun e w' => e = .returned (.bool true) ∧ w' = w :=
  (implIn_any n a b w).mono fun _ _ ⟨he, hw⟩ => ⟨by rw [he, decide_eq_true h], hw⟩
theorem implIn_no {n a b : Int} (w : World) (h : ¬ (a ≤ n ∧ n ≤ b)) : Calls Tryz.prog 53 #[.int .i64 n, .int .i64 a, .int .i64 b] w fun e w' => e = .returned (.bool false) ∧ w' = w :=
  (implIn_any n a b w).mono fun _ _ ⟨he, hw⟩ => ⟨by rw [he, decide_eq_false h], hw⟩

end Go.Proofs.YtmkchilhnmkhkabGreat
namespace Go.Proofs.YtmkchilhnmkhkabGreat
open Go.RowKit Go.Proofs.YtmkchilhnmkhkabGreat.Hexa Go.Proofs.YtmkchilhnmkhkabGreat.Byt Go.Proofs.YtmkchilhnmkhkabGreat.BitsM

set_option maxRecDepth 100000 in
set_option maxHeartbeats 1000000 in
theorem implNum_yes (m k : Nat) (w : World) (hk : 1 ≤ k) (hk' : k ≤ 7) (hm : m < 256 ^ k) :
    Calls Tryz.prog 62 #[.int .i64 m, .int .i64 k] w fun e w' => e = .returned (.string (numB m k)) ∧ Below w.heap.size w w' := by
  obtain ⟨i0, hi, hz0, hz1, hz2⟩ := info_parts infoByte
  have hmb : m < 72057594037927936 := Nat.lt_of_lt_of_le hm (Nat.le_trans (Nat.pow_le_pow_right (by omega) hk') (by decide))
  have hq := shift_zero hm
  have h0 : ¬ ((m : Int) < 0) := by omega
  have hsh0 : (8 * (k : Int)).toNat = 8 * k := by omega
  clear hm
  go_enter Tryz.func62, Tryz.ntmps62
  go_wp2_with (at_make; refine wpList_make_full _ rfl _ _ 85 rfl w.heap.size 5 i0 (.int .u8 0) 1 Tryz.underlying85 hi hz0 hz1 .i64 .i64 _ _ k rfl rfl rfl rfl (by rw [hz2]; omega) (by unfold maxLen; omega) (Nat.le_refl _) ?_; intro w0 hown0 hgrow0)
  have hg0 : Below w.heap.size w w0 := (Below.refl _ _).grown hgrow0 (Nat.le_refl _) (fun k h => by cases h)
  have HO0 := Lib.hid (part_start hown0)
  clear hown0 hgrow0 hq hsh0
  go_loopw [6, 28] (fun jv iv wr => ∃ j : Nat, j ≤ k ∧ iv = .int .i64 j ∧ Hid (Bytes wr w.heap.size 5 (.slice (some ⟨w.heap.size, 0, none⟩) k k) (partB (numL m k j) k)) ∧ Below w.heap.size w wr)
    (fun _ iv _ => k - (intOf iv).toNat)
  case atStart => exact ⟨0, Nat.zero_le _, rfl, HO0, hg0⟩
  case round =>
    clear HO0 hg0
    obtain ⟨j, hj, rfl, HW, hbel⟩ := hrel
    have hl := numL_length m k j
    by_cases hlt : j < k
    · have hsh : (8 * ((k : Int) - 1 - j)).toNat = 8 * (k - 1 - j) := by omega
      have hge : 0 ≤ (k : Int) - 1 - j := by omega
      have hby := num_byte m (k - 1 - j)
      have HNX := Lib.hid (numL_next m k j)
      obtain ⟨⟨v, c3⟩, z3, hB⟩ := part_at HW.out (by omega)
      have N3 := Lib.hid (part_next HW.out (UInt8.ofNat (m / 256 ^ (k - 1 - j))) (by omega))
      rw [hl] at c3 z3 N3
      rw [HNX.out] at N3
      generalize UInt8.ofNat (m / 256 ^ (k - 1 - j)) = z at hby N3
      have hb1 : Below w.heap.size w (wr.setCell ⟨w.heap.size, j, none⟩ (.int .u8 (z.toNat : Int))) := hbel.setCell (Nat.le_refl _) _
      clear HNX
      go_wp2
      go_roundw
      case rel => exact ⟨j + 1, by omega, by go_num, N3, hb1⟩
      case measure => (simp [intOf]; try omega)
    · obtain rfl : j = k := by omega
      have h9 := HW.out
      rw [partB_full _ _ hl] at h9
      have hconv := bytes_string (P := Tryz.prog) 85 9 Tryz.underlying85 Tryz.underlying5 Tryz.underlying9 h9
      clear h9
      go_wp2
      go_ret
      exact ⟨rfl, hbel⟩
end Go.Proofs.YtmkchilhnmkhkabGreat
namespace Go.Proofs.YtmkchilhnmkhkabGreat
open Go.RowKit Go.Proofs.YtmkchilhnmkhkabGreat.Hexa Go.Proofs.YtmkchilhnmkhkabGreat.Byt Go.Proofs.YtmkchilhnmkhkabGreat.BitsM

set_option maxRecDepth 100000 in
set_option maxHeartbeats 1000000 in
theorem implNum_no (n width : Int) (w : World) (h : ¬ NumFits n width) (hn : n ≤ 9223372036854775807) :
    Calls Tryz.prog 62 #[.int .i64 n, .int .i64 width] w fun e w' => e = .returned (.string ⟨#[]⟩) ∧ w' = w := by
  by_cases h0 : n < 0
  · go_enter Tryz.func62, Tryz.ntmps62
    go_wp2
    go_ret
    exact ⟨rfl, rfl⟩
  · by_cases hr1 : width < 1
    · go_enter Tryz.func62, Tryz.ntmps62
      go_wp2
      go_ret
      exact ⟨rfl, rfl⟩
    · by_cases hr2 : 7 < width
      · go_enter Tryz.func62, Tryz.ntmps62
        go_wp2
        go_ret
        exact ⟨rfl, rfl⟩
      · have hbig : ¬ n < 256 ^ width.toNat := fun hlt => h ⟨by omega, ⟨by omega, by omega⟩, hlt⟩
        obtain ⟨k, rfl⟩ : ∃ k : Nat, width = k := ⟨width.toNat, by omega⟩
        obtain ⟨m, rfl⟩ : ∃ m : Nat, n = m := ⟨n.toNat, by omega⟩
        have hm : 256 ^ k ≤ m := by
          have e : ((k : Int).toNat) = k := by omega
          rw [e] at hbig
          have e2 : (256 : Int) ^ k = ((256 ^ k : Nat) : Int) := by simp
          rw [e2] at hbig
          omega
        have hq0 := shift_pos hm
        have hq : ¬ ((m : Int) / 2 ^ (8 * k) = 0) := by omega
        have hsh0 : (8 * (k : Int)).toNat = 8 * k := by omega
        clear h hbig hm hq0
        go_enter Tryz.func62, Tryz.ntmps62
        go_wp2
        go_ret
        exact ⟨rfl, rfl⟩

theorem implNum_any (n width : Int) (w : World) (hn : n ≤ 9223372036854775807) :
    Calls Tryz.prog 62 #[.int .i64 n, .int .i64 width] w fun e w' => e = .returned (.string (numTextB n width)) ∧ Below w.heap.size w w' := by
  by_cases h : NumFits n width
  · have hE : numTextB n width = numB n.toNat width.toNat := by unfold numTextB; exact if_pos h
    obtain ⟨h0, ⟨h1, h7⟩, hf⟩ := h
    obtain ⟨m, rfl⟩ : ∃ m : Nat, n = m := ⟨n.toNat, by omega⟩
    obtain ⟨k, rfl⟩ : ∃ k : Nat, width = k := ⟨width.toNat, by omega⟩
    rw [hE]
    simp only [Int.toNat_natCast] at hf ⊢
    have e2 : (256 : Int) ^ k = ((256 ^ k : Nat) : Int) := by simp
    rw [e2] at hf
    exact implNum_yes m k w (by omega) (by omega) (by omega)
  · have hE : numTextB n width = ⟨#[]⟩ := by unfold numTextB; exact if_neg h
    rw [hE]
    exact (implNum_no n width w h hn).mono fun e w' ⟨he, hw⟩ => ⟨he, by rw [hw]; exact Below.refl _ _⟩
end Go.Proofs.YtmkchilhnmkhkabGreat
namespace Go.Proofs.YtmkchilhnmkhkabGreat
open Go.RowKit Go.Proofs.YtmkchilhnmkhkabGreat.Parts Go.Proofs.YtmkchilhnmkhkabGreat.Hexa Go.Proofs.YtmkchilhnmkhkabGreat.Byt

set_option maxRecDepth 100000 in
set_option maxHeartbeats 1000000 in
theorem implRecWord_no (p q : Int) (m : ByteArray) (w : World) (_hm : m.size ≤ 2000000) (h : ¬ RecOk ⟨p, q, m⟩) :
    Calls Tryz.prog 66 #[.agg #[.int .i64 p, .int .i64 q, .string m]] w (SaysT ⟨#[]⟩ w) := by
  by_cases h0 : 1 ≤ p ∧ p ≤ 12
  · have H0 := Lib.hid h0
    by_cases h1 : 1 ≤ q ∧ q ≤ 16777215
    · have H1 := Lib.hid h1
      have h2 : ¬ m.size = 4 := fun e => h ⟨h0, h1, e⟩
      have e8 : ((m.size : Int) == 4) = false := by simp; omega
      have e9 : ((m.size : Int) != 4) = true := by simp; omega
      clear h0 h1 h
      go_enter Tryz.func66, Tryz.ntmps66
      go_wp2_with (first | ((with_reducible refine (implIn_yes _ H0.out).mono ?_); rintro e w1 ⟨rfl, rfl⟩) | ((with_reducible refine (implIn_yes _ H1.out).mono ?_); rintro e w1 ⟨rfl, rfl⟩))
      go_ret
      exact ⟨rfl, below_bk w _⟩
    · have H1 := Lib.hid h1
      clear h0 h1 h
      go_enter Tryz.func66, Tryz.ntmps66
      go_wp2_with (first | ((with_reducible refine (implIn_yes _ H0.out).mono ?_); rintro e w1 ⟨rfl, rfl⟩) | ((with_reducible refine (implIn_no _ H1.out).mono ?_); rintro e w1 ⟨rfl, rfl⟩))
      go_ret
      exact ⟨rfl, below_bk w _⟩
  · have H0 := Lib.hid h0
    clear h0 h
    go_enter Tryz.func66, Tryz.ntmps66
    go_wp2_with ((with_reducible refine (implIn_no _ H0.out).mono ?_); rintro e w1 ⟨rfl, rfl⟩)
    go_ret
    exact ⟨rfl, below_bk w _⟩

set_option maxRecDepth 100000 in
set_option maxHeartbeats 1000000 in
theorem implRecWord_yes (p q : Int) (m : ByteArray) (w : World) (h : RecOk ⟨p, q, m⟩) :
    Calls Tryz.prog 66 #[.agg #[.int .i64 p, .int .i64 q, .string m]] w (SaysT (recWordB ⟨p, q, m⟩) w) := by
  have HE := Lib.hid (recWordB_yes h)
  obtain ⟨h0, h1, h2⟩ := h
  have H0 : Hid (1 ≤ p ∧ p ≤ 12) := Lib.hid h0
  have H1 : Hid (1 ≤ q ∧ q ≤ 16777215) := Lib.hid h1
  have hm4 : m.size = 4 := h2
  have e8 : ((m.size : Int) == 4) = true := by simp; omega
  have e9 : ((m.size : Int) != 4) = false := by simp; omega
  have T0 := Lib.hid (Bk.alloc w #[.int .i64 p, .int .i64 q, .string m] 94)
  have B0 := Lib.hid (below_bk w (.cells #[.int .i64 p, .int .i64 q, .string m] 94))
  have hA : (numTextB p 1).size = 1 := numText_size (k := 1) (by omega) (by have := H0.out.1; omega) (by have := H0.out.2; omega)
  have hB : (numTextB q 3).size = 3 := numText_size (k := 3) (by omega) (by have := H1.out.1; omega) (by have := H1.out.2; omega)
  obtain ⟨A, hAe⟩ : ∃ A, numTextB p 1 = A := ⟨_, rfl⟩
  obtain ⟨D, hDe⟩ : ∃ D, numTextB q 3 = D := ⟨_, rfl⟩
  have HA := Lib.hid hAe
  have HD := Lib.hid hDe
  rw [hAe] at hA
  rw [hDe] at hB
  have hA1 : A.size ≤ 1 := by omega
  have hB1 : D.size ≤ 3 := by omega
  have hAD : ¬ (9223372036854775807 < A.size + D.size) := by omega
  have hADm : ¬ (9223372036854775807 < A.size + D.size + 4) := by omega
  clear h0 h1 h2 hAe hDe hA hB
  go_enter Tryz.func66, Tryz.ntmps66
  go_wp2_with (first | ((with_reducible refine (implIn_yes _ H0.out).mono ?_); rintro e w1 ⟨rfl, rfl⟩) | ((with_reducible refine (implIn_yes _ H1.out).mono ?_); rintro e w1 ⟨rfl, rfl⟩))
  have T0d := Lib.hid T0.out.drew
  have B0d : Hid (Below w.heap.size w (w.alloc (.cells #[.int .i64 p, .int .i64 q, .string m] 94)).drew) := Lib.hid B0.out.drew
  go_region_held3 (fun w' => w'.cell? ⟨w.heap.size, 0, none⟩ = some (.int .i64 p) ∧ w'.cell? ⟨w.heap.size, 1, none⟩ = some (.int .i64 q) ∧ w'.cell? ⟨w.heap.size, 2, none⟩ = some (.string m))
    (first
      | exact ⟨T0d.out.cell rfl, T0d.out.cell rfl, T0d.out.cell rfl⟩
      | exact ⟨T1.out.cell rfl, T1.out.cell rfl, T1.out.cell rfl⟩
      | exact ⟨T2.out.cell rfl, T2.out.cell rfl, T2.out.cell rfl⟩
      | go_keep)
    (first
      | (go_at_call 62; (with_reducible refine (implNum_any p 1 _ (by have := H0.out.2; omega)).mono ?_); rw [HA.out]; rintro e w1 ⟨rfl, hb⟩; have T1 := Lib.hid (T0d.out.later hb); have B1 : Hid (Below w.heap.size w w1) := Lib.hid (B0d.out.trans (hb.mono B0d.out.size)); clear hb)
      | (go_at_call 62; (with_reducible refine (implNum_any q 3 _ (by have := H1.out.2; omega)).mono ?_); rw [HD.out]; rintro e w2 ⟨rfl, hb⟩; have T2 := Lib.hid (T1.out.later hb); have B2 : Hid (Below w.heap.size w w2) := Lib.hid (B1.out.trans (hb.mono B1.out.size)); clear hb))
  go_wp2
  go_ret
  exact ⟨by rw [HE.out, HA.out, HD.out]; rfl, B2.out⟩
theorem implRecWord_any (p q : Int) (m : ByteArray) (w : World) (hm : m.size ≤ 2000000) :
    Calls Tryz.prog 66 #[.agg #[.int .i64 p, .int .i64 q, .string m]] w (SaysT (recWordB ⟨p, q, m⟩) w) := by
  by_cases h : RecOk ⟨p, q, m⟩
  · exact implRecWord_yes p q m w h
  · rw [recWordB_no h]; exact implRecWord_no p q m w hm h
end Go.Proofs.YtmkchilhnmkhkabGreat
namespace Go.Proofs.YtmkchilhnmkhkabGreat
open Go.RowKit Go.Proofs.YtmkchilhnmkhkabGreat.Parts Go.Proofs.YtmkchilhnmkhkabGreat.Hexa Go.Proofs.YtmkchilhnmkhkabGreat.Byt

theorem implPages_any (n : Int) (w : World) (h0 : -9223372036854775808 ≤ n) (h1 : n ≤ 9223372036854775807) : Calls Tryz.prog 104 #[.int .i64 n] w fun e w' => e = .returned (.int .i64 (pagesZ n)) ∧ w' = w := by
  by_cases h : n ≤ 0
  · have HE : Hid (pagesZ n = 0) := Lib.hid (if_pos h)
    go_enter Tryz.func104, Tryz.ntmps104
    go_wp2
    go_ret
    exact ⟨by rw [HE.out]; rfl, rfl⟩
  · have HE : Hid (pagesZ n = (n - 1) / 32 + 1) := Lib.hid (if_neg h)
    have hp : 1 ≤ n := by omega
    have hd : (n - 1) / 32 ≤ 288230376151711743 := by omega
    have hd0 : 0 ≤ (n - 1) / 32 := by omega
    go_enter Tryz.func104, Tryz.ntmps104
    go_wp2
    go_ret
    exact ⟨by rw [HE.out]; rfl, rfl⟩

end Go.Proofs.YtmkchilhnmkhkabGreat
namespace Go.Proofs.YtmkchilhnmkhkabGreat
open Go.RowKit Go.Proofs.YtmkchilhnmkhkabGreat.Parts Go.Proofs.YtmkchilhnmkhkabGreat.Hexa Go.Proofs.YtmkchilhnmkhkabGreat.Byt

/-- Which pages the first k records have. -/
def takenB (R : List RecR) (k q : Nat) : Bool := (List.range k).any fun i => (R.getD i default).f0 == (q : Int)
theorem takenB_iff {R : List RecR} {k q : Nat} : takenB R k q = true ↔ ∃ i, i < k ∧ (R.getD i default).f0 = (q : Int) := by simp [takenB]
structure TakenTo (R : List RecR) (k : Nat) (cs : Array Value) : Prop where
  size : cs.size = 13
  cell : ∀ q, q < 13 → cs[q]? = some (.bool (takenB R k q))
theorem TakenTo.zero (R : List RecR) : TakenTo R 0 #[.bool false, .bool false, .bool false, .bool false, .bool false, .bool false, .bool false, .bool false, .bool false, .bool false, .bool false, .bool false, .bool false] :=
  ⟨rfl, fun q hq => by
    match q, hq with
    | 0, _ => rfl
    | 1, _ => rfl
    | 2, _ => rfl
    | 3, _ => rfl
    | 4, _ => rfl
    | 5, _ => rfl
    | 6, _ => rfl
    | 7, _ => rfl
    | 8, _ => rfl
    | 9, _ => rfl
    | 10, _ => rfl
    | 11, _ => rfl
    | 12, _ => rfl
    | q + 13, h => omega⟩
theorem takenB_next (R : List RecR) (k q p : Nat) (hp : (R.getD k default).f0 = (p : Int)) : takenB R (k + 1) q = (takenB R k q || decide (q = p)) := by
  unfold takenB
  rw [List.range_succ, List.any_append]
  simp only [List.any_cons, List.any_nil, Bool.or_false, hp]
  congr 1
  by_cases h : q = p
  · subst h; simp
  · simp [h]; omega
theorem TakenTo.next {R : List RecR} {k p : Nat} {cs : Array Value} (h : TakenTo R k cs) (hp : (R.getD k default).f0 = (p : Int)) (h12 : p < 13) : TakenTo R (k + 1) (cs.setIfInBounds p (.bool true)) :=
  ⟨by simp [h.size], fun q hq => by
    rw [takenB_next R k q p hp, Array.getElem?_setIfInBounds]
    by_cases e : p = q
    · subst e; simp [h.size, h12]
    · rw [if_neg e, h.cell q hq]
      have : ¬ q = p := fun x => e x.symm
      simp [this]⟩

section
variable (sz : Int) (key : ByteArray) (aR : Option Addr) (nR cR : Nat) (w : World) (R : List RecR)

set_option maxRecDepth 100000 in
set_option maxHeartbeats 1000000 in
theorem implFile_no (hz : -9223372036854775808 ≤ sz ∧ sz ≤ 9223372036854775807) (hno : ¬ ((0 ≤ sz ∧ sz ≤ 128) ∧ key.size = 8 ∧ (nR : Int) = pagesZ sz)) :
    Calls Tryz.prog 90 #[.agg #[.int .i64 sz, .string key, .slice aR nR cR]] w (SaysB false w) := by
  have HZ := Lib.hid hz
  have B0 := Lib.hid (below_bk w (.cells #[.int .i64 sz, .string key, .slice aR nR cR] 91))
  clear hz
  by_cases h1 : 0 ≤ sz ∧ sz ≤ 128
  · have H1 := Lib.hid h1
    by_cases h2 : key.size = 8
    · have e2 : ((key.size : Int) != 8) = false := by simp; omega
      have h3 : ¬ (nR : Int) = pagesZ sz := fun e => hno ⟨h1, h2, e⟩
      obtain ⟨p, hp⟩ : ∃ p, pagesZ sz = p := ⟨_, rfl⟩
      have HQ : Hid (∀ W : World, Calls Tryz.prog 104 #[.int .i64 sz] W fun e w' => e = .returned (.int .i64 p) ∧ w' = W) := Lib.hid (fun W => by
        rw [← hp]; exact implPages_any sz W HZ.out.1 HZ.out.2)
      rw [hp] at h3
      have e3 : ((nR : Int) != p) = true := by simpa using h3
      clear hno h1 h3 hp
      go_enter Tryz.func90, Tryz.ntmps90
      go_wp2
      go_quiet (first
        | (go_at_call 53; exact Calls.quiet_of_same (implIn_yes _ H1.out))
        | (go_at_call 104; exact Calls.quiet_of_same (HQ.out _)))
      go_wp2
      go_ret
      exact ⟨rfl, below_drewsN B0.out _⟩
    · have e2 : ((key.size : Int) != 8) = true := by have : ¬ ((key.size : Int) = 8) := by omega
                                                     simpa using this
      clear hno h1 h2
      go_enter Tryz.func90, Tryz.ntmps90
      go_wp2
      go_quiet ((go_at_call 53; exact Calls.quiet_of_same (implIn_yes _ H1.out)))
      go_wp2
      go_ret
      exact ⟨rfl, below_drewsN B0.out _⟩
  · have H1 := Lib.hid h1
    clear hno h1
    go_enter Tryz.func90, Tryz.ntmps90
    go_wp2
    go_quiet ((go_at_call 53; exact Calls.quiet_of_same (implIn_no _ H1.out)))
    go_wp2
    go_ret
    exact ⟨rfl, below_drewsN B0.out _⟩

set_option maxRecDepth 100000 in
set_option maxHeartbeats 2000000 in
theorem implFile_yes (h1 : 0 ≤ sz ∧ sz ≤ 128) (h2 : key.size = 8) (h3 : (nR : Int) = pagesZ sz) (hs : SrcRec w aR nR R) (hf : FitRec R nR 2000000) (b : Bool) (hb : b = true ↔ RecsOk R nR) :
    Calls Tryz.prog 90 #[.agg #[.int .i64 sz, .string key, .slice aR nR cR]] w (SaysB b w) := by
  have H1 := Lib.hid h1
  have HF := Lib.hid hf
  have HG := Lib.hid hb
  have B0 := Lib.hid (below_bk w (.cells #[.int .i64 sz, .string key, .slice aR nR cR] 91))
  have HS := Lib.hid hs
  have N0 : Hid ((w.alloc (.cells #[.int .i64 sz, .string key, .slice aR nR cR] 91)).heap.size = w.heap.size + 1) := Lib.hid (by simp)
  have e2 : ((key.size : Int) != 8) = false := by simp; omega
  have hn4 : nR ≤ 4 := by unfold pagesZ at h3; split at h3 <;> omega
  have HQ : Hid (∀ W : World, Calls Tryz.prog 104 #[.int .i64 sz] W fun e w' => e = .returned (.int .i64 nR) ∧ w' = W) := Lib.hid (fun W => by
    rw [h3]; exact implPages_any sz W (by omega) (by omega))
  clear h1 h2 h3 hs hf hb
  go_enter Tryz.func90, Tryz.ntmps90
  go_wp2
  go_quiet (first
    | (go_at_call 53; exact Calls.quiet_of_same (implIn_yes _ H1.out))
    | (go_at_call 104; exact Calls.quiet_of_same (HQ.out _)))
  go_wp2
  go_loopw [28] (fun iv wr => ∃ (k : Nat) (cs : Array Value), k ≤ nR ∧ iv = .int .i64 k ∧ Hid (RecsOk R k) ∧ Hid (TakenTo R k cs) ∧ Hid (Bk wr (w.heap.size + 1) cs 126) ∧ Hid (Below w.heap.size w wr)) (fun iv _ => nR - (intOf iv).toNat)
  case atStart =>
    exact ⟨0, _, Nat.zero_le _, rfl, Lib.hid (fun j hj => by omega), Lib.hid (TakenTo.zero R), Lib.hid (by rw [← N0.out]; exact Bk.alloc _ _ _), Lib.hid ((below_drewsN B0.out _).alloc B0.out.size _)⟩
  case round =>
    obtain ⟨k, cs, hk, rfl, HA, HT0, HK, HB⟩ := hrel
    by_cases hlt : k < nR
    · obtain ⟨g, off, ha, hg, d0, d1, d2⟩ := srcRec_later HS.out HB.out (Nat.le_refl _) k hlt
      obtain ⟨⟨p, q, m⟩, hx⟩ : ∃ x, R.getD k default = x := ⟨_, rfl⟩
      have hm := HF.out k hlt
      rw [hx] at d0 d1 d2 hm
      simp only at d0 d1 d2 hm
      have HX := Lib.hid hx
      have HM := Lib.hid hm
      have X0 := Lib.hid (Bk.alloc wr #[.int .i64 p, .int .i64 q, .string m] 94)
      have HKa := Lib.hid (HK.out.later (below_bk wr (.cells #[.int .i64 p, .int .i64 q, .string m] 94)))
      have HBa : Hid (Below w.heap.size w (wr.alloc (.cells #[.int .i64 p, .int .i64 q, .string m] 94))) := Lib.hid (HB.out.alloc HB.out.size _)
      have HNa : Hid (w.heap.size + 1 < wr.heap.size) := Lib.hid HK.out.lt
      subst ha
      clear hx hm
      by_cases i1 : RecOk ⟨p, q, m⟩
      · have hT8 := recWord_size i1
        have I1 := Lib.hid i1
        have hp1 : 1 ≤ p ∧ p ≤ 12 := i1.1
        obtain ⟨r, rfl⟩ : ∃ r : Nat, p = (r : Int) := ⟨p.toNat, by omega⟩
        have hr0 : 0 < r := by omega
        have hr12 : r < 13 := by omega
        obtain ⟨T, hT⟩ : ∃ T, recWordB ⟨(r : Int), q, m⟩ = T := ⟨_, rfl⟩
        have HT := Lib.hid hT
        rw [hT] at hT8
        have e1 : (T.toList == []) = false := text_full T (by omega)
        clear i1 hT hT8 hp1
        go_wp2_with fail
        refine (implRecWord_any (r : Int) q m _ HM.out).mono ?_
        rw [HT.out]
        rintro e w1 ⟨rfl, hb1⟩
        have X1 := Lib.hid (X0.out.later hb1)
        have K1 := Lib.hid (HKa.out.later hb1)
        have B1 : Hid (Below w.heap.size w w1) := Lib.hid (HBa.out.trans (hb1.mono HBa.out.size))
        have x0 := X1.out.cell (j := 0) rfl
        have f1 := K1.out.fr (o := r)
        have S1 : Hid (Bk (w1.setCell ⟨w.heap.size + 1, r, none⟩ (.bool true)) (w.heap.size + 1) (cs.setIfInBounds r (.bool true)) 126) := Lib.hid (K1.out.set r (.bool true))
        have B2 : Hid (Below w.heap.size w (w1.setCell ⟨w.heap.size + 1, r, none⟩ (.bool true))) := Lib.hid (B1.out.setCell (by simp) _)
        have HT2 := Lib.hid (HT0.out.next (p := r) (by rw [HX.out]) hr12)
        clear hb1 d0 d1 d2 HB HK HKa HBa
        by_cases i2 : takenB R k r = true
        · have k1 : w1.cell? ⟨w.heap.size + 1, r, none⟩ = some (.bool true) := by
            have h9 := K1.out.cell (HT0.out.cell r hr12)
            rw [i2] at h9; exact h9
          obtain rfl : b = false := bool_no HG.out (fun x => by
            obtain ⟨i, hi, he⟩ := takenB_iff.1 i2
            exact (x k hlt).2 i hi (by rw [he, HX.out]))
          clear i2
          go_wp2
          go_ret
          exact ⟨rfl, B1.out⟩
        · have k1 : w1.cell? ⟨w.heap.size + 1, r, none⟩ = some (.bool false) := by
            have h9 := K1.out.cell (HT0.out.cell r hr12)
            rw [show takenB R k r = false by simpa using i2] at h9; exact h9
          have HA2 : Hid (RecsOk R (k + 1)) := Lib.hid (recsOk_step HA.out (by rw [HX.out]; exact I1.out) (fun j hj e => i2 (takenB_iff.2 ⟨j, hj, by rw [e, HX.out]⟩)))
          clear i2
          go_wp2
          clear x0 f1 k1
          go_roundw
          case rel => exact ⟨k + 1, _, by omega, by go_num, HA2, HT2, S1, B2⟩
          case measure => (simp [intOf]; try omega)
      · have HT := Lib.hid (recWordB_no i1)
        obtain rfl : b = false := bool_no HG.out (fun x => i1 (by have h9 := (x k hlt).1; rw [HX.out] at h9; exact h9))
        clear i1
        go_wp2_with fail
        refine (implRecWord_any p q m _ HM.out).mono ?_
        rw [HT.out]
        rintro e w1 ⟨rfl, hb1⟩
        have B1 : Hid (Below w.heap.size w w1) := Lib.hid (HBa.out.trans (hb1.mono HBa.out.size))
        clear hb1 d0 d1 d2 HB HK HKa HBa
        go_wp2
        go_ret
        exact ⟨rfl, B1.out⟩
    · obtain rfl : k = nR := by omega
      obtain rfl : b = true := HG.out.2 HA.out
      go_wp2
      go_ret
      exact ⟨rfl, HB.out⟩
theorem implFile_any (hz : -9223372036854775808 ≤ sz ∧ sz ≤ 9223372036854775807) (hs : SrcRec w aR nR R) (hf : FitRec R nR 2000000) (b : Bool) (hb : b = true ↔ ((0 ≤ sz ∧ sz ≤ 128) ∧ key.size = 8 ∧ (nR : Int) = pagesZ sz ∧ RecsOk R nR)) :
    Calls Tryz.prog 90 #[.agg #[.int .i64 sz, .string key, .slice aR nR cR]] w (SaysB b w) := by
  by_cases h : (0 ≤ sz ∧ sz ≤ 128) ∧ key.size = 8 ∧ (nR : Int) = pagesZ sz
  · exact implFile_yes sz key aR nR cR w R h.1 h.2.1 h.2.2 hs hf b ⟨fun e => (hb.1 e).2.2.2, fun e => hb.2 ⟨h.1, h.2.1, h.2.2, e⟩⟩
  · obtain rfl : b = false := bool_no hb (fun x => h ⟨x.1, x.2.1, x.2.2.1⟩)
    exact implFile_no sz key aR nR cR w hz h
end
end Go.Proofs.YtmkchilhnmkhkabGreat
namespace Go.Proofs.YtmkchilhnmkhkabGreat
open Go.RowKit Go.Proofs.YtmkchilhnmkhkabGreat.Parts Go.Proofs.YtmkchilhnmkhkabGreat.Hexa Go.Proofs.YtmkchilhnmkhkabGreat.Byt

set_option maxRecDepth 100000 in
set_option maxHeartbeats 1000000 in
theorem implNameByte_any (n : Int) (w : World) :
    Calls Tryz.prog 109 #[.int .u8 n] w fun e w' => e = .returned (.bool (decide ((97 ≤ n ∧ n ≤ 122) ∨ (48 ≤ n ∧ n ≤ 57)))) ∧ w' = w := by
  by_cases h1 : 97 ≤ n <;> by_cases h2 : n ≤ 122 <;> by_cases h3 : 48 ≤ n <;> by_cases h4 : n ≤ 57
  all_goals
    go_enter Tryz.func109, Tryz.ntmps109
    go_wp2
    all_goals go_ret
    all_goals exact ⟨by simp [h1, h2, h3, h4], rfl⟩
theorem implNameByte_yes {b : UInt8} (w : World) (h : NameC b) :
    Calls Tryz.prog 109 #[.int .u8 (b.toNat : Int)] w fun e w' => e = .returned (.bool true) ∧ w' = w :=
  (implNameByte_any (b.toNat : Int) w).mono fun _ _ ⟨he, hw⟩ => ⟨by rw [he, decide_eq_true (by rcases h with h | h <;> omega)], hw⟩
theorem implNameByte_no {b : UInt8} (w : World) (h : ¬ NameC b) :
    Calls Tryz.prog 109 #[.int .u8 (b.toNat : Int)] w fun e w' => e = .returned (.bool false) ∧ w' = w :=
  (implNameByte_any (b.toNat : Int) w).mono fun _ _ ⟨he, hw⟩ => ⟨by rw [he, decide_eq_false (fun x => h (by rcases x with x | x; exact .inl (by omega); exact .inr (by omega)))], hw⟩

/-- Every byte of it may stand in a name. -/
def nameBytes (s : ByteArray) : Bool := decide (∀ b ∈ s.data.toList, NameC b)
theorem nameBytes_yes {s : ByteArray} (h : ∀ j (hj : j < s.size), NameC s[j]) : nameBytes s = true := decide_eq_true (fun b hb => by
  obtain ⟨j, hj, rfl⟩ := List.mem_iff_getElem.1 hb
  have hj' : j < s.size := by simpa using hj
  exact h j hj')
theorem nameBytes_no {s : ByteArray} (j : Nat) (hj : j < s.size) (h : ¬ NameC s[j]) : nameBytes s = false := decide_eq_false (fun h2 => h (h2 _ (by
  rw [show s[j] = s.data.toList[j]'(by simpa using hj) from rfl]
  exact List.getElem_mem _)))
theorem nameB_split (s : ByteArray) : nameB s = (decide (1 ≤ s.size ∧ s.size ≤ 7) && nameBytes s) := by
  unfold nameB nameBytes NameR
  by_cases h1 : 1 ≤ s.size ∧ s.size ≤ 7 <;> simp [h1]

set_option maxRecDepth 100000 in
set_option maxHeartbeats 1000000 in
theorem implNameBytes_any (s : ByteArray) (w : World) (hs : s.size ≤ 2000000) :
    Calls Tryz.prog 105 #[.string s] w fun e w' => e = .returned (.bool (nameBytes s)) ∧ w' = w := by
  go_enter Tryz.func105, Tryz.ntmps105
  go_wp2
  go_loop [6] (fun i => ∃ k : Nat, k ≤ s.size ∧ i = .int .i64 k ∧ Hid (∀ j (hj : j < s.size), j < k → NameC s[j])) (fun i => s.size - (intOf i).toNat)
  case atStart => exact ⟨0, Nat.zero_le _, rfl, Lib.hid (fun j hj h => by omega)⟩
  case round =>
    obtain ⟨k, hk, rfl, HA⟩ := hrel
    by_cases hlt : k < s.size
    · obtain ⟨b, hb⟩ : ∃ b, s[k]'hlt = b := ⟨_, rfl⟩
      have hb255 := b.toNat_lt
      have HB := Lib.hid hb
      by_cases h1 : NameC b
      · have HR := Lib.hid h1
        have HA2 : Hid (∀ j (hj : j < s.size), j < k + 1 → NameC s[j]) := Lib.hid (fun j hj h => by
          by_cases e : j = k
          · subst e; rw [HB.out]; exact HR.out
          · exact HA.out j hj (by omega))
        clear h1
        go_wp2_with ((with_reducible refine (implNameByte_yes _ HR.out).mono ?_); rintro e w1 ⟨rfl, rfl⟩)
        go_round
        case rel => exact ⟨k + 1, by omega, by go_num, HA2⟩
        case measure => (simp [intOf]; try omega)
      · have HR := Lib.hid h1
        have HN : Hid (nameBytes s = false) := Lib.hid (nameBytes_no k hlt (by rw [hb]; exact h1))
        clear h1
        go_wp2_with ((with_reducible refine (implNameByte_no _ HR.out).mono ?_); rintro e w1 ⟨rfl, rfl⟩)
        go_ret
        exact ⟨by rw [HN.out]; rfl, rfl⟩
    · obtain rfl : k = s.size := by omega
      have HN : Hid (nameBytes s = true) := Lib.hid (nameBytes_yes (fun j hj => HA.out j hj hj))
      go_wp2
      go_ret
      exact ⟨by rw [HN.out]; rfl, rfl⟩
set_option maxRecDepth 100000 in
set_option maxHeartbeats 1000000 in
theorem implName_any (s : ByteArray) (w : World) (hs : s.size ≤ 2000000) :
    Calls Tryz.prog 92 #[.string s] w fun e w' => e = .returned (.bool (nameB s)) ∧ w' = w := by
  by_cases hl : (1 : Int) ≤ (s.size : Int) ∧ (s.size : Int) ≤ 7
  · have HL := Lib.hid hl
    have HN : Hid (nameBytes s = nameB s) := Lib.hid (by rw [nameB_split, decide_eq_true (show 1 ≤ s.size ∧ s.size ≤ 7 by omega)]; rfl)
    clear hl
    go_enter Tryz.func92, Tryz.ntmps92
    go_wp2_with (first
      | ((with_reducible refine (implIn_yes _ HL.out).mono ?_); rintro e w1 ⟨rfl, rfl⟩)
      | ((with_reducible refine (implNameBytes_any s _ hs).mono ?_); rintro e w1 ⟨rfl, rfl⟩))
    go_ret
    exact ⟨by rw [HN.out]; rfl, rfl⟩
  · have HL := Lib.hid hl
    have HN : Hid (nameB s = false) := Lib.hid (nameB_no (fun h => hl (by have := h.1; omega)))
    clear hl
    go_enter Tryz.func92, Tryz.ntmps92
    go_wp2_with ((with_reducible refine (implIn_no _ HL.out).mono ?_); rintro e w1 ⟨rfl, rfl⟩)
    go_ret
    exact ⟨by rw [HN.out]; rfl, rfl⟩
end Go.Proofs.YtmkchilhnmkhkabGreat
namespace Go.Proofs.YtmkchilhnmkhkabGreat
open Go.RowKit Go.Proofs.YtmkchilhnmkhkabGreat.Hexa Go.Proofs.YtmkchilhnmkhkabGreat.Byt Go.Proofs.YtmkchilhnmkhkabGreat.BitsM

theorem wordB_list (s : ByteArray) (h : s.size ≤ 8) : (⟨(s.data.toList ++ (partB [] 8).drop s.size).toArray⟩ : ByteArray) = wordB s := by
  have hE : wordB s = s ++ longB (8 - s.size) 0 := if_pos h
  rw [hE, partB_nil, List.drop_replicate]
  apply ByteArray.ext
  apply Array.toList_inj.1
  rw [ByteArray.data_append, Array.toList_append]
  rfl

set_option maxRecDepth 100000 in
set_option maxHeartbeats 1000000 in
theorem implWord_any (s : ByteArray) (w : World) :
    Calls Tryz.prog 63 #[.string s] w fun e w' => e = .returned (.string (wordB s)) ∧ Below w.heap.size w w' := by
  by_cases h : s.size ≤ 8
  · obtain ⟨i0, hi, hz0, hz1, hz2⟩ := info_parts infoByte
    have HE := Lib.hid (wordB_list s h)
    go_enter Tryz.func63, Tryz.ntmps63
    go_wp2_with (at_make; refine wpList_make_full _ rfl _ _ 85 rfl w.heap.size 5 i0 (.int .u8 0) 1 Tryz.underlying85 hi hz0 hz1 .i64 .i64 _ _ 8 rfl rfl rfl rfl (by rw [hz2]; omega) (by unfold maxLen; omega) (Nat.le_refl _) ?_; intro w0 hown0 hgrow0; have hg0 : Below w.heap.size w w0 := (Below.refl _ _).grown hgrow0 (Nat.le_refl _) (fun k h => by cases h); obtain ⟨w1, hrun, hb1, hg1⟩ := bytes_copy (P := Tryz.prog) (u := 9) (ty := 3) Tryz.underlying85 hi hz1 (partB_length [] 8 (by decide)) (part_start hown0) s h; have hconv := bytes_string (P := Tryz.prog) 85 9 Tryz.underlying85 Tryz.underlying5 Tryz.underlying9 hb1; rw [HE.out] at hconv; clear hown0 hgrow0 hb1)
    go_ret
    exact ⟨rfl, hg0.trans hg1⟩
  · have HE : Hid (wordB s = ⟨#[]⟩) := Lib.hid (if_neg h)
    have hlt : 8 < s.size := by omega
    go_enter Tryz.func63, Tryz.ntmps63
    go_wp2
    go_ret
    exact ⟨by rw [HE.out]; rfl, Below.refl _ _⟩
end Go.Proofs.YtmkchilhnmkhkabGreat
namespace Go.Proofs.YtmkchilhnmkhkabGreat
open Go.RowKit Go.Proofs.YtmkchilhnmkhkabGreat.Parts Go.Proofs.YtmkchilhnmkhkabGreat.Hexa Go.Proofs.YtmkchilhnmkhkabGreat.Byt

set_option maxRecDepth 100000 in
set_option maxHeartbeats 1000000 in
theorem implEntryWord_no (p : Int) (m : ByteArray) (w : World) (hm : m.size ≤ 2000000) (h : ¬ EntryOk ⟨p, m⟩) :
    Calls Tryz.prog 68 #[.agg #[.int .i64 p, .string m]] w (SaysT ⟨#[]⟩ w) := by
  by_cases h0 : 1 ≤ p ∧ p ≤ 5
  · have H0 := Lib.hid h0
    have h2 : ¬ NameR m := fun e => h ⟨h0, e⟩
    have HN := Lib.hid (nameB_no h2)
    clear h0 h h2
    go_enter Tryz.func68, Tryz.ntmps68
    go_wp2_with (first | ((with_reducible refine (implIn_yes _ H0.out).mono ?_); rintro e w1 ⟨rfl, rfl⟩) | (go_at_call 92; refine (implName_any m _ hm).mono ?_; rw [HN.out]; rintro e w1 ⟨rfl, rfl⟩))
    go_ret
    exact ⟨rfl, below_bk w _⟩
  · have H0 := Lib.hid h0
    clear h0 h
    go_enter Tryz.func68, Tryz.ntmps68
    go_wp2_with ((with_reducible refine (implIn_no _ H0.out).mono ?_); rintro e w1 ⟨rfl, rfl⟩)
    go_ret
    exact ⟨rfl, below_bk w _⟩

set_option maxRecDepth 100000 in
set_option maxHeartbeats 1000000 in
theorem implEntryWord_yes (p : Int) (m : ByteArray) (w : World) (h : EntryOk ⟨p, m⟩) :
    Calls Tryz.prog 68 #[.agg #[.int .i64 p, .string m]] w (SaysT (entryWordB ⟨p, m⟩) w) := by
  have HE := Lib.hid (entryWordB_yes h)
  obtain ⟨h0, h1⟩ := h
  have H0 : Hid (1 ≤ p ∧ p ≤ 5) := Lib.hid h0
  have HN := Lib.hid (nameB_yes h1)
  have hm : m.size ≤ 7 := h1.1.2
  have T0 := Lib.hid (Bk.alloc w #[.int .i64 p, .string m] 77)
  have B0 := Lib.hid (below_bk w (.cells #[.int .i64 p, .string m] 77))
  have hA : (numTextB p 1).size = 1 := numText_size (k := 1) (by omega) (by have := H0.out.1; omega) (by have := H0.out.2; omega)
  obtain ⟨A, hAe⟩ : ∃ A, numTextB p 1 = A := ⟨_, rfl⟩
  have HA := Lib.hid hAe
  rw [hAe] at hA
  have hA1 : ¬ (9223372036854775807 < A.size + m.size) := by omega
  have T0d := Lib.hid T0.out.drew
  have B0d : Hid (Below w.heap.size w (w.alloc (.cells #[.int .i64 p, .string m] 77)).drew) := Lib.hid B0.out.drew
  clear h0 h1 hAe hA
  go_enter Tryz.func68, Tryz.ntmps68
  go_wp2_with (first | ((with_reducible refine (implIn_yes _ H0.out).mono ?_); rintro e w1 ⟨rfl, rfl⟩) | (go_at_call 92; refine (implName_any m _ (by omega)).mono ?_; rw [HN.out]; rintro e w1 ⟨rfl, rfl⟩))
  go_region_held3 (fun w' => w'.cell? ⟨w.heap.size, 0, none⟩ = some (.int .i64 p) ∧ w'.cell? ⟨w.heap.size, 1, none⟩ = some (.string m))
    (first
      | exact ⟨T0d.out.cell rfl, T0d.out.cell rfl⟩
      | exact ⟨T1.out.cell rfl, T1.out.cell rfl⟩
      | exact ⟨T2.out.cell rfl, T2.out.cell rfl⟩
      | go_keep)
    (first
      | (go_at_call 62; (with_reducible refine (implNum_any p 1 _ (by have := H0.out.2; omega)).mono ?_); rw [HA.out]; rintro e w1 ⟨rfl, hb⟩; have T1 := Lib.hid (T0d.out.later hb); have B1 : Hid (Below w.heap.size w w1) := Lib.hid (B0d.out.trans (hb.mono B0d.out.size)); clear hb)
      | (go_at_call 63; (with_reducible refine (implWord_any (A ++ m) _).mono ?_); rintro e w2 ⟨rfl, hb⟩; have T2 := Lib.hid (T1.out.later hb); have B2 : Hid (Below w.heap.size w w2) := Lib.hid (B1.out.trans (hb.mono B1.out.size)); clear hb))
  go_wp2
  go_ret
  exact ⟨by rw [HE.out, HA.out]; rfl, B2.out⟩
theorem implEntryWord_any (p : Int) (m : ByteArray) (w : World) (hm : m.size ≤ 2000000) :
    Calls Tryz.prog 68 #[.agg #[.int .i64 p, .string m]] w (SaysT (entryWordB ⟨p, m⟩) w) := by
  by_cases h : EntryOk ⟨p, m⟩
  · exact implEntryWord_yes p m w h
  · rw [entryWordB_no h]; exact implEntryWord_no p m w hm h

end Go.Proofs.YtmkchilhnmkhkabGreat
namespace Go.Proofs.YtmkchilhnmkhkabGreat
open Go.RowKit Go.Proofs.YtmkchilhnmkhkabGreat.Parts Go.Proofs.YtmkchilhnmkhkabGreat.Hexa Go.Proofs.YtmkchilhnmkhkabGreat.Byt

/-- The name ahead of the k-th. -/
def prevT (E : List EntryR) (k : Nat) : ByteArray := if k = 0 then ⟨#[]⟩ else (E.getD (k - 1) default).f1
theorem prevT_next (E : List EntryR) (k : Nat) : prevT E (k + 1) = (E.getD k default).f1 := by unfold prevT; rw [if_neg (by omega)]; rfl
theorem text_first {m : ByteArray} (h : 0 < m.size) : textLt ⟨#[]⟩ m = true := by
  unfold textLt
  rw [Go.ByteArray.toList_eq, Go.ByteArray.toList_eq]
  have hl : 0 < m.data.toList.length := by simpa using h
  match m.data.toList, hl with
  | x :: r, _ => rfl
theorem entsOk_on {E : List EntryR} {m : Nat} (h : EntsOk E m) (h1 : EntryOk (E.getD m default)) (h2 : textLt (prevT E m) (E.getD m default).f1 = true) : EntsOk E (m + 1) :=
  entsOk_step h h1 (fun h0 => by unfold prevT at h2; rw [if_neg (by omega)] at h2; exact h2)
theorem entsOk_prev {E : List EntryR} {n k : Nat} (h : EntsOk E n) (hk : k < n) : textLt (prevT E k) (E.getD k default).f1 = true := by
  unfold prevT
  by_cases h0 : k = 0
  · rw [if_pos h0]; exact text_first (by have := (h k hk).1.2.1; omega)
  · rw [if_neg h0]; exact (h k hk).2 (by omega)

end Go.Proofs.YtmkchilhnmkhkabGreat
namespace Go.Proofs.YtmkchilhnmkhkabGreat
open Go.RowKit Go.Proofs.YtmkchilhnmkhkabGreat.Parts Go.Proofs.YtmkchilhnmkhkabGreat.Hexa Go.Proofs.YtmkchilhnmkhkabGreat.Byt

theorem bytes_tri : ∀ a b : List UInt8, (Op.bytesLess b a = true ∧ Op.bytesLess a b = false ∧ (a == b) = false) ∨ (Op.bytesLess b a = false ∧ Op.bytesLess a b = true) ∨ (Op.bytesLess b a = false ∧ Op.bytesLess a b = false ∧ (a == b) = true)
  | [], [] => .inr (.inr ⟨rfl, rfl, rfl⟩)
  | [], y :: s => .inr (.inl ⟨rfl, rfl⟩)
  | x :: r, [] => .inl ⟨rfl, rfl, rfl⟩
  | x :: r, y :: s => by
    have ih := bytes_tri r s
    simp only [Op.bytesLess]
    by_cases h1 : x = y
    · subst h1
      have hl : ¬ (x < x) := UInt8.lt_irrefl x
      simpa [hl] using ih
    · rcases UInt8.lt_or_lt_of_ne h1 with h | h
      · have h2 : ¬ (y < x) := UInt8.not_lt.2 (UInt8.le_of_lt h)
        have h3 : ¬ (y = x) := fun e => h1 e.symm
        simp [h, h2, h1, h3]
      · have h2 : ¬ (x < y) := UInt8.not_lt.2 (UInt8.le_of_lt h)
        simp [h, h2, h1]
theorem text_tri (m u : ByteArray) : (textLt u m = true ∧ Op.bytesLess m.toList u.toList = false ∧ (m.toList == u.toList) = false) ∨ (textLt u m = false ∧ Op.bytesLess m.toList u.toList = true) ∨ (textLt u m = false ∧ Op.bytesLess m.toList u.toList = false ∧ (m.toList == u.toList) = true) :=
  bytes_tri m.toList u.toList
section
variable (aE : Option Addr) (nE cE : Nat) (w : World) (E : List EntryR)

set_option maxRecDepth 100000 in
set_option maxHeartbeats 2000000 in
theorem implDir_yes (h6 : nE ≤ 6) (hs : SrcEntry w aE nE E) (hf : FitEntry E nE 2000000) (b : Bool) (hb : b = true ↔ EntsOk E nE) :
    Calls Tryz.prog 91 #[.agg #[.slice aE nE cE]] w (SaysB b w) := by
  have HF := Lib.hid hf
  have HG := Lib.hid hb
  have B0 := Lib.hid (below_bk w (.cells #[.slice aE nE cE] 97))
  have HS := Lib.hid hs
  have e6 : decide ((6 : Int) < (nE : Int)) = false := by simp; omega
  clear hs hf hb
  go_enter Tryz.func91, Tryz.ntmps91
  go_wp2
  go_loopw [13, 3] (fun iv sv wr => ∃ (k : Nat) (u : ByteArray), k ≤ nE ∧ iv = .int .i64 k ∧ sv = .string u ∧ Hid (u = prevT E k) ∧ Hid (EntsOk E k) ∧ Hid (Below w.heap.size w wr)) (fun iv _ _ => nE - (intOf iv).toNat)
  case atStart => exact ⟨0, _, Nat.zero_le _, rfl, rfl, Lib.hid rfl, Lib.hid (fun j hj => by omega), B0⟩
  case round =>
    obtain ⟨k, u, hk, rfl, rfl, HU, HA, HB⟩ := hrel
    by_cases hlt : k < nE
    · obtain ⟨g, off, ha, hg, d0, d1⟩ := srcEntry_later HS.out HB.out (Nat.le_refl _) k hlt
      obtain ⟨⟨p, m⟩, hx⟩ : ∃ x, E.getD k default = x := ⟨_, rfl⟩
      have hm := HF.out k hlt
      rw [hx] at d0 d1 hm
      simp only at d0 d1 hm
      have HX := Lib.hid hx
      have HM := Lib.hid hm
      have X0 := Lib.hid (Bk.alloc wr #[.int .i64 p, .string m] 77)
      have HBa : Hid (Below w.heap.size w (wr.alloc (.cells #[.int .i64 p, .string m] 77))) := Lib.hid (HB.out.alloc HB.out.size _)
      subst ha
      clear hx hm
      by_cases i1 : EntryOk ⟨p, m⟩
      · have hT8 := entryWord_size i1
        have I1 := Lib.hid i1
        obtain ⟨T, hT⟩ : ∃ T, entryWordB ⟨p, m⟩ = T := ⟨_, rfl⟩
        have HT := Lib.hid hT
        rw [hT] at hT8
        have e1 : (T.toList == []) = false := text_full T (by omega)
        clear i1 hT hT8
        go_wp2_with fail
        refine (implEntryWord_any p m _ HM.out).mono ?_
        rw [HT.out]
        rintro e w1 ⟨rfl, hb1⟩
        have X1 := Lib.hid (X0.out.later hb1)
        have B1 : Hid (Below w.heap.size w w1) := Lib.hid (HBa.out.trans (hb1.mono HBa.out.size))
        have x1 := X1.out.cell (j := 1) rfl
        have HU2 : Hid (m = prevT E (k + 1)) := Lib.hid (by rw [prevT_next, HX.out])
        clear hb1 d0 d1 HB HBa
        rcases text_tri m u with ⟨i2, i3, i4⟩ | ⟨i2, i3⟩ | ⟨i2, i3, i4⟩
        · have HA2 : Hid (EntsOk E (k + 1)) := Lib.hid (entsOk_on HA.out (by rw [HX.out]; exact I1.out) (by rw [HX.out, ← HU.out]; exact i2))
          clear i2
          go_wp2
          clear x1 i3 i4
          go_roundw
          case rel => exact ⟨k + 1, _, by omega, by go_num, rfl, HU2, HA2, B1⟩
          case measure => (simp [intOf]; try omega)
        · obtain rfl : b = false := bool_no HG.out (fun x => by have h9 := entsOk_prev x hlt; rw [HX.out, ← HU.out] at h9; change textLt u m = true at h9; rw [i2] at h9; cases h9)
          clear i2
          go_wp2
          go_ret
          exact ⟨rfl, B1.out⟩
        · obtain rfl : b = false := bool_no HG.out (fun x => by have h9 := entsOk_prev x hlt; rw [HX.out, ← HU.out] at h9; change textLt u m = true at h9; rw [i2] at h9; cases h9)
          clear i2
          go_wp2
          go_ret
          exact ⟨rfl, B1.out⟩
      · have HT := Lib.hid (entryWordB_no i1)
        obtain rfl : b = false := bool_no HG.out (fun x => i1 (by have h9 := (x k hlt).1; rw [HX.out] at h9; exact h9))
        clear i1
        go_wp2_with fail
        refine (implEntryWord_any p m _ HM.out).mono ?_
        rw [HT.out]
        rintro e w1 ⟨rfl, hb1⟩
        have B1 : Hid (Below w.heap.size w w1) := Lib.hid (HBa.out.trans (hb1.mono HBa.out.size))
        clear hb1 d0 d1 HB HBa
        go_wp2
        go_ret
        exact ⟨rfl, B1.out⟩
    · obtain rfl : k = nE := by omega
      obtain rfl : b = true := HG.out.2 HA.out
      go_wp2
      go_ret
      exact ⟨rfl, HB.out⟩
theorem implDir_any (hn : nE ≤ 9223372036854775807) (hs : SrcEntry w aE nE E) (hf : FitEntry E nE 2000000) (b : Bool) (hb : b = true ↔ (nE ≤ 6 ∧ EntsOk E nE)) :
    Calls Tryz.prog 91 #[.agg #[.slice aE nE cE]] w (SaysB b w) := by
  by_cases h : nE ≤ 6
  · exact implDir_yes aE nE cE w E h hs hf b ⟨fun e => (hb.1 e).2, fun e => hb.2 ⟨h, e⟩⟩
  · obtain rfl : b = false := bool_no hb (fun x => h x.1)
    have B0 := Lib.hid (below_bk w (.cells #[.slice aE nE cE] 97))
    clear hb hs hf
    have h7 : (6 : Int) < (nE : Int) := by omega
    go_enter Tryz.func91, Tryz.ntmps91
    go_wp2
    go_ret
    exact ⟨rfl, B0.out⟩
end
end Go.Proofs.YtmkchilhnmkhkabGreat
namespace Go.Proofs.YtmkchilhnmkhkabGreat
open Go.RowKit Go.Proofs.YtmkchilhnmkhkabGreat.Parts Go.Proofs.YtmkchilhnmkhkabGreat.Hexa Go.Proofs.YtmkchilhnmkhkabGreat.Byt

/-- What bodyOf returns. -/
def bodyV (kd sz : Int) (key : ByteArray) (aR : Option Addr) (nR cR : Nat) (aE : Option Addr) (nE cE : Nat) : Value :=
  if kd = 0 then .iface 114 (.agg #[]) else if kd = 1 then .iface 91 (.agg #[.int .i64 sz, .string key, .slice aR nR cR])
  else if kd = 2 then .iface 97 (.agg #[.slice aE nE cE]) else .nilIface

section
variable (kd sz gn : Int) (key : ByteArray) (aR : Option Addr) (nR cR : Nat) (aE : Option Addr) (nE cE : Nat) (w : World)

set_option maxRecDepth 100000 in
set_option maxHeartbeats 1000000 in
theorem implBody_any :
    Calls Tryz.prog 64 #[.agg #[.int .i64 kd, .int .i64 sz, .int .i64 gn, .string key, .slice aR nR cR, .slice aE nE cE]] w fun e w' => e = .returned (bodyV kd sz key aR nR cR aE nE cE) ∧ Below w.heap.size w w' := by
  have B0 := Lib.hid (below_bk w (inoObj kd sz gn key aR nR cR aE nE cE))
  by_cases h0 : kd = 0
  · subst h0
    go_enter Tryz.func64, Tryz.ntmps64
    go_wp2
    go_ret
    exact ⟨rfl, B0.out⟩
  · have e0 : (kd == 0) = false := by simpa using h0
    by_cases h1 : kd = 1
    · subst h1
      go_enter Tryz.func64, Tryz.ntmps64
      go_wp2
      go_ret
      exact ⟨rfl, B0.out⟩
    · have e1 : (kd == 1) = false := by simpa using h1
      by_cases h2 : kd = 2
      · subst h2
        go_enter Tryz.func64, Tryz.ntmps64
        go_wp2
        go_ret
        exact ⟨rfl, B0.out⟩
      · have e2 : (kd == 2) = false := by simpa using h2
        have HE : Hid (bodyV kd sz key aR nR cR aE nE cE = .nilIface) := Lib.hid (by unfold bodyV; rw [if_neg h0, if_neg h1, if_neg h2])
        clear h0 h1 h2
        go_enter Tryz.func64, Tryz.ntmps64
        go_wp2
        go_ret
        exact ⟨by rw [HE.out]; rfl, B0.out⟩
end
end Go.Proofs.YtmkchilhnmkhkabGreat
namespace Go.Proofs.YtmkchilhnmkhkabGreat
open Go.RowKit

theorem as_file (v : Value) (w : World) : (Instr.typeAssert (.iface 91 v) 88 91 true).run Tryz.prog w = .ok (.tuple #[v, .bool true]) w := by kernel_rfl
theorem as_dir (v : Value) (w : World) : (Instr.typeAssert (.iface 97 v) 88 97 true).run Tryz.prog w = .ok (.tuple #[v, .bool true]) w := by kernel_rfl
theorem as_free (v : Value) (w : World) : (Instr.typeAssert (.iface 114 v) 88 114 true).run Tryz.prog w = .ok (.tuple #[v, .bool true]) w := by kernel_rfl
theorem free_no_file (v : Value) (w : World) : (Instr.typeAssert (.iface 114 v) 88 91 true).run Tryz.prog w = .ok (.tuple #[.agg #[.int .i64 0, .string ⟨#[]⟩, .slice none 0 0], .bool false]) w := by kernel_rfl
theorem dir_no_file (v : Value) (w : World) : (Instr.typeAssert (.iface 97 v) 88 91 true).run Tryz.prog w = .ok (.tuple #[.agg #[.int .i64 0, .string ⟨#[]⟩, .slice none 0 0], .bool false]) w := by kernel_rfl
theorem nil_no_file (w : World) : (Instr.typeAssert .nilIface 88 91 true).run Tryz.prog w = .ok (.tuple #[.agg #[.int .i64 0, .string ⟨#[]⟩, .slice none 0 0], .bool false]) w := by kernel_rfl
theorem free_no_dir (v : Value) (w : World) : (Instr.typeAssert (.iface 114 v) 88 97 true).run Tryz.prog w = .ok (.tuple #[.agg #[.slice none 0 0], .bool false]) w := by kernel_rfl
theorem nil_no_dir (w : World) : (Instr.typeAssert .nilIface 88 97 true).run Tryz.prog w = .ok (.tuple #[.agg #[.slice none 0 0], .bool false]) w := by kernel_rfl
theorem nil_no_free (w : World) : (Instr.typeAssert .nilIface 88 114 true).run Tryz.prog w = .ok (.tuple #[.agg #[], .bool false]) w := by kernel_rfl
end Go.Proofs.YtmkchilhnmkhkabGreat
