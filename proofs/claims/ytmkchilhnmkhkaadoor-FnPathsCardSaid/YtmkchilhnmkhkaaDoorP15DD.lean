/- Merged texts: TIntE, InoMath, TRecE, TEntryE, TInoE, TPartE, TIntZS, TRecZ, TRecZS, TEntryZ, TEntryZS, TInoZ, TInoZS, TPartZ, ToInts, TIntCS, TRecC, TRecCS, TEntryC, TEntryCS, TInoC, TInoCS, TPartC, Drews, TIntQS, TRecQ, TRecQS, TEntryQ, TEntryQS, TInoQ, TInoQS, TPartQ, MarkAt. -/
import Derived.Test.YtmkchilhnmkhkaaDoorP15DC
namespace Go.Proofs.YtmkchilhnmkhkaaDoor
open Go.RowKit Go.Proofs.YtmkchilhnmkhkaaDoor.Parts Go.Proofs.YtmkchilhnmkhkaaDoor.Hexa

def cInt : EncC Int := ⟨3, 1, fun x => [.val (.int .i64 x)], fun _ => rfl⟩
theorem cInt_at {w : World} {L : List Int} {a : Option Addr} {n c : Nat} (h : (celRow cInt L).Rd w (.slice a n c)) (j : Nat) (hj : j < n) :
    ∃ (g off : Nat), a = some ⟨g, off, none⟩ ∧ g < w.heap.size ∧ w.cell? ⟨g, off + j, none⟩ = some (.int .i64 (L.getD j default)) := by
  obtain ⟨g, off, vs, ha, hg, hr, hc⟩ := row_at h (by decide) j hj
  obtain ⟨v, r, rfl, h0, h1⟩ := hr
  have h0' : v = .int .i64 (L.getD j default) := h0
  have h9 := hc 0 v rfl
  rw [h0', show off + j * cInt.k + 0 = off + j from by show off + j * 1 + 0 = _; omega] at h9
  exact ⟨g, off, ha, hg, h9⟩
theorem srcI_of_rd {w : World} {L : List Int} {a : Option Addr} {n c : Nat} (h : (celRow cInt L).Rd w (.slice a n c)) : SrcI w a n L := by
  obtain ⟨_, _, _, hv, hn⟩ := row_form h
  cases hv
  exact ⟨hn, fun j hj => cInt_at h j hj⟩
theorem rd_of_srcI {w : World} {L : List Int} {a : Option Addr} {n c : Nat} (h : SrcI w a n L) : (celRow cInt L).Rd w (.slice a n c) := by
  have hl := h.len
  subst hl
  refine ⟨by rw [celsE_length], a, c, icells L, rfl, ?_, ?_⟩
  · clear h
    induction L with
    | nil => exact rfl
    | cons x r ih => exact ⟨_, _, rfl, rfl, ih⟩
  · by_cases h0 : L.length = 0
    · exact .inl h0
    · obtain ⟨g, off, ha, hg, _⟩ := h.cell 0 (by omega)
      refine .inr ⟨g, off, ha, hg, fun j u hu => ?_⟩
      have hj : j < L.length := by
        rcases Nat.lt_or_ge j L.length with h9 | h9
        · exact h9
        · rw [List.getElem?_eq_none (by rw [icells_length]; exact h9)] at hu; cases hu
      obtain ⟨g2, off2, ha2, _, hc⟩ := h.cell j hj
      rw [ha] at ha2
      cases ha2
      rw [hc]
      simp only [icells, List.getElem?_map] at hu
      rw [List.getElem?_eq_getElem hj] at hu
      simp only [Option.map_some, Option.some.injEq] at hu
      rw [← hu]
      simp [List.getD, hj]
theorem own_ints {w : World} : ∀ L : List Int, OwnL w (celsE cInt L) [] (icells L)
  | [] => ⟨rfl, rfl⟩
  | x :: r => ⟨.int .i64 x, icells r, [], [], rfl, rfl, ⟨rfl, rfl⟩, own_ints r⟩
theorem obj_ints {w : World} {B n lo hi : Nat} {v : Value} {L : List Int} (h : w.ownsRow B 3 1 v n (icells L)) (h1 : lo ≤ B) (h2 : w.heap.size ≤ hi) : Obj1 w lo hi (celRow cInt L) v := by
  have hl : L.length = n := by have := h.1; rw [icells_length] at this; omega
  unfold celRow
  rw [hl]
  exact obj_of_row h (by rw [celsE_length, hl]) (own_ints L) List.nodup_nil (fun _ hg => by cases hg) (fun g hg => by have := h.lt g hg; exact ⟨by simp, by omega, by omega⟩)

theorem cInt_sz (x : Int) : szL (cInt.cels x) = 0 + 0 := rfl
theorem szInts_eq (L : List Int) : (celRow cInt L).sz = L.length := by
  have h1 : ∀ M : List Int, szL (celsE cInt M) = 0 := by
    intro M
    induction M with
    | nil => rfl
    | cons x r ih => rw [celsE, szL_append, ih]; rfl
  show L.length + szL (celsE cInt L) = _
  have := h1 L
  omega
end Go.Proofs.YtmkchilhnmkhkaaDoor
namespace Go.Proofs.YtmkchilhnmkhkaaDoor
open Go.RowKit Go.Proofs.YtmkchilhnmkhkaaDoor.Parts Go.Proofs.YtmkchilhnmkhkaaDoor.Hexa Go.Proofs.YtmkchilhnmkhkaaDoor.Byt

structure InoR where
  kd : Int
  sz : Int
  gn : Int
  key : ByteArray
  R : List RecR
  E : List EntryR
def textLt (a b : ByteArray) : Bool := Op.bytesLess a.toList b.toList
def RecsOk (R : List RecR) (m : Nat) : Prop := ∀ j, j < m → RecOk (R.getD j default) ∧ ∀ k, k < j → (R.getD k default).f0 ≠ (R.getD j default).f0
def EntsOk (E : List EntryR) (m : Nat) : Prop := ∀ j, j < m → EntryOk (E.getD j default) ∧ (0 < j → textLt (E.getD (j - 1) default).f1 (E.getD j default).f1 = true)
def FreeOk (n : InoR) : Prop := n.sz = 0 ∧ n.key.size = 0 ∧ n.R.length = 0 ∧ n.E.length = 0
def FileOk (n : InoR) : Prop := (0 ≤ n.sz ∧ n.sz ≤ 128) ∧ n.key.size = 8 ∧ (n.R.length : Int) = pagesZ n.sz ∧ n.E.length = 0 ∧ RecsOk n.R n.R.length
def DirOk (n : InoR) : Prop := n.sz = 0 ∧ n.key.size = 0 ∧ n.R.length = 0 ∧ n.E.length ≤ 6 ∧ EntsOk n.E n.E.length
def InoOk (n : InoR) : Prop := (0 ≤ n.gn ∧ n.gn ≤ 65535) ∧ ((n.kd = 0 ∧ FreeOk n) ∨ (n.kd = 1 ∧ FileOk n) ∨ (n.kd = 2 ∧ DirOk n))
noncomputable def inoB (n : InoR) : Bool := @decide (InoOk n) (Classical.propDecidable _)
theorem inoB_yes {n : InoR} (h : InoOk n) : inoB n = true := by unfold inoB; exact @decide_eq_true _ (Classical.propDecidable _) h
theorem inoB_no {n : InoR} (h : ¬ InoOk n) : inoB n = false := by unfold inoB; exact @decide_eq_false _ (Classical.propDecidable _) h
theorem recsOk_step {R : List RecR} {m : Nat} (h : RecsOk R m) (h1 : RecOk (R.getD m default)) (h2 : ∀ k, k < m → (R.getD k default).f0 ≠ (R.getD m default).f0) : RecsOk R (m + 1) := fun j hj => by
  by_cases e : j = m
  · subst e; exact ⟨h1, h2⟩
  · exact h j (by omega)
theorem entsOk_step {E : List EntryR} {m : Nat} (h : EntsOk E m) (h1 : EntryOk (E.getD m default)) (h2 : 0 < m → textLt (E.getD (m - 1) default).f1 (E.getD m default).f1 = true) : EntsOk E (m + 1) := fun j hj => by
  by_cases e : j = m
  · subst e; exact ⟨h1, h2⟩
  · exact h j (by omega)

/-- The words of an inode. -/
def headB (n : InoR) : ByteArray := wordB (numTextB n.kd 1 ++ numTextB n.sz 2 ++ numTextB n.gn 2)
def zero8 : ByteArray := zeroB 8
def wordsI (n : InoR) : List ByteArray := [headB n, wordB n.key] ++ n.R.map recWordB ++ n.E.map entryWordB
noncomputable def inoWordsB (n : InoR) : List ByteArray := if inoB n = true then wordsI n ++ List.replicate (8 - (wordsI n).length) zero8 else []
theorem wordsI_le {n : InoR} (h : InoOk n) : (wordsI n).length ≤ 8 := by
  unfold wordsI
  simp only [List.length_append, List.length_map, List.length_cons, List.length_nil]
  obtain ⟨_, ⟨_, h0⟩ | ⟨_, h0⟩ | ⟨_, h0⟩⟩ := h
  · obtain ⟨_, _, h1, h2⟩ := h0; omega
  · obtain ⟨h1, _, h2, h3, _⟩ := h0
    have : pagesZ n.sz ≤ 4 := by unfold pagesZ; split <;> omega
    omega
  · obtain ⟨_, _, h1, h2, _⟩ := h0; omega
theorem entryWord_size {r : EntryR} (h : EntryOk r) : (entryWordB r).size = 8 := by
  obtain ⟨⟨h0, h1⟩, h2⟩ := h
  rw [entryWordB_yes ⟨⟨h0, h1⟩, h2⟩]
  have e1 : (numTextB r.f0 1).size = 1 := numText_size (k := 1) (by omega) (by omega) (by omega)
  have e2 : (numTextB r.f0 1 ++ r.f1).size ≤ 8 := by rw [ByteArray.size_append, e1]; have := h2.1.2; omega
  unfold wordB
  rw [if_pos e2, ByteArray.size_append, longB_size]
  omega
end Go.Proofs.YtmkchilhnmkhkaaDoor
namespace Go.Proofs.YtmkchilhnmkhkaaDoor
open Go.RowKit Go.Proofs.YtmkchilhnmkhkaaDoor.Parts Go.Proofs.YtmkchilhnmkhkaaDoor.Hexa

def cRec : EncC RecR := ⟨66, 3, fun x => [.val (.int .i64 x.f0), .val (.int .i64 x.f1), .val (.string x.f2)], fun _ => rfl⟩
theorem infoRecD : (Tryd.prog.info? 66).map (fun i => (i.zero, i.size, i.bytes)) = some (some (.agg #[.int .i64 0, .int .i64 0, .string ⟨#[]⟩]), 3, 32) := by kernel_rfl
theorem cRec_form {w : World} {x : RecR} {vs : List Value} (h : RdL w (cRec.cels x) vs) : vs = [.int .i64 x.f0, .int .i64 x.f1, .string x.f2] := by
  obtain ⟨v0, r0, e0, h0, v1, r1, e1, h1, v2, r2, e2, h2, hend⟩ := h
  have f0 : v0 = .int .i64 x.f0 := h0
  have f1 : v1 = .int .i64 x.f1 := h1
  have f2 : v2 = .string x.f2 := h2
  have hend' : r2 = [] := hend
  rw [hend'] at e2
  rw [e2] at e1
  rw [e1] at e0
  rw [f0, f1, f2] at e0
  exact e0
theorem cRec_rd {w : World} {x : RecR}  : RdL w (cRec.cels x) [.int .i64 x.f0, .int .i64 x.f1, .string x.f2] :=
  ⟨_, _, rfl, rfl, ⟨_, _, rfl, rfl, ⟨_, _, rfl, rfl, rfl⟩⟩⟩
theorem cRec_at {w : World} {L : List RecR} {a : Option Addr} {n c : Nat} (h : (celRow cRec L).Rd w (.slice a n c)) (j : Nat) (hj : j < n) :
    ∃ (g off : Nat), a = some ⟨g, off, none⟩ ∧ g < w.heap.size ∧ w.cell? ⟨g, off + j * 3, none⟩ = some (.int .i64 (L.getD j default).f0) ∧ w.cell? ⟨g, off + j * 3 + 1, none⟩ = some (.int .i64 (L.getD j default).f1) ∧ w.cell? ⟨g, off + j * 3 + 2, none⟩ = some (.string (L.getD j default).f2) := by
  obtain ⟨g, off, vs, ha, hg, hr, hc⟩ := row_at h (by decide) j hj
  have hv := cRec_form hr
  subst hv
  exact ⟨g, off, ha, hg, hc 0 _ rfl, hc 1 _ rfl, hc 2 _ rfl⟩
theorem cRec_sz (x : RecR) : szL (cRec.cels x) = (0 + (0 + (x.f2.size + 0))) := rfl
theorem cRec_cnt (x : RecR) : cntL (cRec.cels x) = (1 + (1 + (1 + 0))) := rfl

end Go.Proofs.YtmkchilhnmkhkaaDoor
namespace Go.Proofs.YtmkchilhnmkhkaaDoor
open Go.RowKit Go.Proofs.YtmkchilhnmkhkaaDoor.Parts Go.Proofs.YtmkchilhnmkhkaaDoor.Hexa

def cEntry : EncC EntryR := ⟨47, 2, fun x => [.val (.int .i64 x.f0), .val (.string x.f1)], fun _ => rfl⟩
theorem infoEntryD : (Tryd.prog.info? 47).map (fun i => (i.zero, i.size, i.bytes)) = some (some (.agg #[.int .i64 0, .string ⟨#[]⟩]), 2, 24) := by kernel_rfl
theorem cEntry_form {w : World} {x : EntryR} {vs : List Value} (h : RdL w (cEntry.cels x) vs) : vs = [.int .i64 x.f0, .string x.f1] := by
  obtain ⟨v0, r0, e0, h0, v1, r1, e1, h1, hend⟩ := h
  have f0 : v0 = .int .i64 x.f0 := h0
  have f1 : v1 = .string x.f1 := h1
  have hend' : r1 = [] := hend
  rw [hend'] at e1
  rw [e1] at e0
  rw [f0, f1] at e0
  exact e0
theorem cEntry_rd {w : World} {x : EntryR}  : RdL w (cEntry.cels x) [.int .i64 x.f0, .string x.f1] :=
  ⟨_, _, rfl, rfl, ⟨_, _, rfl, rfl, rfl⟩⟩
theorem cEntry_at {w : World} {L : List EntryR} {a : Option Addr} {n c : Nat} (h : (celRow cEntry L).Rd w (.slice a n c)) (j : Nat) (hj : j < n) :
    ∃ (g off : Nat), a = some ⟨g, off, none⟩ ∧ g < w.heap.size ∧ w.cell? ⟨g, off + j * 2, none⟩ = some (.int .i64 (L.getD j default).f0) ∧ w.cell? ⟨g, off + j * 2 + 1, none⟩ = some (.string (L.getD j default).f1) := by
  obtain ⟨g, off, vs, ha, hg, hr, hc⟩ := row_at h (by decide) j hj
  have hv := cEntry_form hr
  subst hv
  exact ⟨g, off, ha, hg, hc 0 _ rfl, hc 1 _ rfl⟩
theorem cEntry_sz (x : EntryR) : szL (cEntry.cels x) = (0 + (x.f1.size + 0)) := rfl
theorem cEntry_cnt (x : EntryR) : cntL (cEntry.cels x) = (1 + (1 + 0)) := rfl

end Go.Proofs.YtmkchilhnmkhkaaDoor
namespace Go.Proofs.YtmkchilhnmkhkaaDoor
open Go.RowKit Go.Proofs.YtmkchilhnmkhkaaDoor.Parts Go.Proofs.YtmkchilhnmkhkaaDoor.Hexa

instance : Inhabited InoR := ⟨⟨0, 0, 0, ByteArray.empty, [], []⟩⟩
def cIno : EncC InoR := ⟨54, 6, fun x => [.val (.int .i64 x.kd), .val (.int .i64 x.sz), .val (.int .i64 x.gn), .val (.string x.key), celRow cRec x.R, celRow cEntry x.E], fun _ => rfl⟩
theorem infoInoD : (Tryd.prog.info? 54).map (fun i => (i.zero, i.size, i.bytes)) = some (some (.agg #[.int .i64 0, .int .i64 0, .int .i64 0, .string ⟨#[]⟩, .slice none 0 0, .slice none 0 0]), 6, 88) := by kernel_rfl
theorem cIno_form {w : World} {x : InoR} {vs : List Value} (h : RdL w (cIno.cels x) vs) : ∃ (a4 : Option Addr) (c4 : Nat) (a5 : Option Addr) (c5 : Nat), vs = [.int .i64 x.kd, .int .i64 x.sz, .int .i64 x.gn, .string x.key, .slice a4 x.R.length c4, .slice a5 x.E.length c5] ∧ (celRow cRec x.R).Rd w (.slice a4 x.R.length c4) ∧ (celRow cEntry x.E).Rd w (.slice a5 x.E.length c5) := by
  obtain ⟨v0, r0, e0, h0, v1, r1, e1, h1, v2, r2, e2, h2, v3, r3, e3, h3, v4, r4, e4, h4, v5, r5, e5, h5, hend⟩ := h
  have f0 : v0 = .int .i64 x.kd := h0
  have f1 : v1 = .int .i64 x.sz := h1
  have f2 : v2 = .int .i64 x.gn := h2
  have f3 : v3 = .string x.key := h3
  obtain ⟨a4, n4, c4, f4, g4⟩ := row_form (E := cRec) (L := x.R) h4
  obtain ⟨a5, n5, c5, f5, g5⟩ := row_form (E := cEntry) (L := x.E) h5
  have hend' : r5 = [] := hend
  subst g4 g5
  rw [hend'] at e5
  rw [e5] at e4
  rw [e4] at e3
  rw [e3] at e2
  rw [e2] at e1
  rw [e1] at e0
  rw [f0, f1, f2, f3, f4, f5] at e0
  rw [f4] at h4
  rw [f5] at h5
  exact ⟨a4, c4, a5, c5, e0, h4, h5⟩
theorem cIno_rd {w : World} {x : InoR} {a4 : Option Addr} {c4 : Nat} {a5 : Option Addr} {c5 : Nat} (h4 : (celRow cRec x.R).Rd w (.slice a4 x.R.length c4)) (h5 : (celRow cEntry x.E).Rd w (.slice a5 x.E.length c5)) : RdL w (cIno.cels x) [.int .i64 x.kd, .int .i64 x.sz, .int .i64 x.gn, .string x.key, .slice a4 x.R.length c4, .slice a5 x.E.length c5] :=
  ⟨_, _, rfl, rfl, ⟨_, _, rfl, rfl, ⟨_, _, rfl, rfl, ⟨_, _, rfl, rfl, ⟨_, _, rfl, h4, ⟨_, _, rfl, h5, rfl⟩⟩⟩⟩⟩⟩
theorem cIno_un {w : World} {x : InoR} {a4 : Option Addr} {c4 : Nat} {a5 : Option Addr} {c5 : Nat} (h : RdL w (cIno.cels x) [.int .i64 x.kd, .int .i64 x.sz, .int .i64 x.gn, .string x.key, .slice a4 x.R.length c4, .slice a5 x.E.length c5]) : (celRow cRec x.R).Rd w (.slice a4 x.R.length c4) ∧ (celRow cEntry x.E).Rd w (.slice a5 x.E.length c5) := by
  replace h := (rd_cons h).2
  replace h := (rd_cons h).2
  replace h := (rd_cons h).2
  replace h := (rd_cons h).2
  obtain ⟨h4, h⟩ := rd_cons h
  obtain ⟨h5, h⟩ := rd_cons h
  exact ⟨h4, h5⟩
theorem cIno_at {w : World} {L : List InoR} {a : Option Addr} {n c : Nat} (h : (celRow cIno L).Rd w (.slice a n c)) (j : Nat) (hj : j < n) :
    ∃ (g off : Nat) (a4 : Option Addr) (c4 : Nat) (a5 : Option Addr) (c5 : Nat), a = some ⟨g, off, none⟩ ∧ g < w.heap.size ∧ w.cell? ⟨g, off + j * 6, none⟩ = some (.int .i64 (L.getD j default).kd) ∧ w.cell? ⟨g, off + j * 6 + 1, none⟩ = some (.int .i64 (L.getD j default).sz) ∧ w.cell? ⟨g, off + j * 6 + 2, none⟩ = some (.int .i64 (L.getD j default).gn) ∧ w.cell? ⟨g, off + j * 6 + 3, none⟩ = some (.string (L.getD j default).key) ∧ w.cell? ⟨g, off + j * 6 + 4, none⟩ = some (.slice a4 (L.getD j default).R.length c4) ∧ w.cell? ⟨g, off + j * 6 + 5, none⟩ = some (.slice a5 (L.getD j default).E.length c5) ∧ (celRow cRec (L.getD j default).R).Rd w (.slice a4 (L.getD j default).R.length c4) ∧ (celRow cEntry (L.getD j default).E).Rd w (.slice a5 (L.getD j default).E.length c5) := by
  obtain ⟨g, off, vs, ha, hg, hr, hc⟩ := row_at h (by decide) j hj
  obtain ⟨a4, c4, a5, c5, hv, h4, h5⟩ := cIno_form hr
  subst hv
  exact ⟨g, off, a4, c4, a5, c5, ha, hg, hc 0 _ rfl, hc 1 _ rfl, hc 2 _ rfl, hc 3 _ rfl, hc 4 _ rfl, hc 5 _ rfl, h4, h5⟩
theorem cIno_sz (x : InoR) : szL (cIno.cels x) = (0 + (0 + (0 + (x.key.size + ((celRow cRec x.R).sz + ((celRow cEntry x.E).sz + 0)))))) := rfl
theorem cIno_cnt (x : InoR) : cntL (cIno.cels x) = (1 + (1 + (1 + (1 + ((celRow cRec x.R).cnt + ((celRow cEntry x.E).cnt + 0)))))) := rfl

end Go.Proofs.YtmkchilhnmkhkaaDoor
namespace Go.Proofs.YtmkchilhnmkhkaaDoor
open Go.RowKit Go.Proofs.YtmkchilhnmkhkaaDoor.Parts Go.Proofs.YtmkchilhnmkhkaaDoor.Hexa

structure PartR where
  ser : Int
  st : List Int
  ino : List InoR
instance : Inhabited PartR := ⟨⟨0, [], []⟩⟩
def cPart : EncC PartR := ⟨42, 3, fun x => [.val (.int .i64 x.ser), celRow cInt x.st, celRow cIno x.ino], fun _ => rfl⟩
theorem infoPartD : (Tryd.prog.info? 42).map (fun i => (i.zero, i.size, i.bytes)) = some (some (.agg #[.int .i64 0, .slice none 0 0, .slice none 0 0]), 3, 56) := by kernel_rfl
theorem cPart_form {w : World} {x : PartR} {vs : List Value} (h : RdL w (cPart.cels x) vs) : ∃ (a1 : Option Addr) (c1 : Nat) (a2 : Option Addr) (c2 : Nat), vs = [.int .i64 x.ser, .slice a1 x.st.length c1, .slice a2 x.ino.length c2] ∧ (celRow cInt x.st).Rd w (.slice a1 x.st.length c1) ∧ (celRow cIno x.ino).Rd w (.slice a2 x.ino.length c2) := by
  obtain ⟨v0, r0, e0, h0, v1, r1, e1, h1, v2, r2, e2, h2, hend⟩ := h
  have f0 : v0 = .int .i64 x.ser := h0
  obtain ⟨a1, n1, c1, f1, g1⟩ := row_form (E := cInt) (L := x.st) h1
  obtain ⟨a2, n2, c2, f2, g2⟩ := row_form (E := cIno) (L := x.ino) h2
  have hend' : r2 = [] := hend
  subst g1 g2
  rw [hend'] at e2
  rw [e2] at e1
  rw [e1] at e0
  rw [f0, f1, f2] at e0
  rw [f1] at h1
  rw [f2] at h2
  exact ⟨a1, c1, a2, c2, e0, h1, h2⟩
theorem cPart_rd {w : World} {x : PartR} {a1 : Option Addr} {c1 : Nat} {a2 : Option Addr} {c2 : Nat} (h1 : (celRow cInt x.st).Rd w (.slice a1 x.st.length c1)) (h2 : (celRow cIno x.ino).Rd w (.slice a2 x.ino.length c2)) : RdL w (cPart.cels x) [.int .i64 x.ser, .slice a1 x.st.length c1, .slice a2 x.ino.length c2] :=
  ⟨_, _, rfl, rfl, ⟨_, _, rfl, h1, ⟨_, _, rfl, h2, rfl⟩⟩⟩
theorem cPart_un {w : World} {x : PartR} {a1 : Option Addr} {c1 : Nat} {a2 : Option Addr} {c2 : Nat} (h : RdL w (cPart.cels x) [.int .i64 x.ser, .slice a1 x.st.length c1, .slice a2 x.ino.length c2]) : (celRow cInt x.st).Rd w (.slice a1 x.st.length c1) ∧ (celRow cIno x.ino).Rd w (.slice a2 x.ino.length c2) := by
  replace h := (rd_cons h).2
  obtain ⟨h1, h⟩ := rd_cons h
  obtain ⟨h2, h⟩ := rd_cons h
  exact ⟨h1, h2⟩
theorem cPart_at {w : World} {L : List PartR} {a : Option Addr} {n c : Nat} (h : (celRow cPart L).Rd w (.slice a n c)) (j : Nat) (hj : j < n) :
    ∃ (g off : Nat) (a1 : Option Addr) (c1 : Nat) (a2 : Option Addr) (c2 : Nat), a = some ⟨g, off, none⟩ ∧ g < w.heap.size ∧ w.cell? ⟨g, off + j * 3, none⟩ = some (.int .i64 (L.getD j default).ser) ∧ w.cell? ⟨g, off + j * 3 + 1, none⟩ = some (.slice a1 (L.getD j default).st.length c1) ∧ w.cell? ⟨g, off + j * 3 + 2, none⟩ = some (.slice a2 (L.getD j default).ino.length c2) ∧ (celRow cInt (L.getD j default).st).Rd w (.slice a1 (L.getD j default).st.length c1) ∧ (celRow cIno (L.getD j default).ino).Rd w (.slice a2 (L.getD j default).ino.length c2) := by
  obtain ⟨g, off, vs, ha, hg, hr, hc⟩ := row_at h (by decide) j hj
  obtain ⟨a1, c1, a2, c2, hv, h1, h2⟩ := cPart_form hr
  subst hv
  exact ⟨g, off, a1, c1, a2, c2, ha, hg, hc 0 _ rfl, hc 1 _ rfl, hc 2 _ rfl, h1, h2⟩
theorem cPart_sz (x : PartR) : szL (cPart.cels x) = (0 + ((celRow cInt x.st).sz + ((celRow cIno x.ino).sz + 0))) := rfl
theorem cPart_cnt (x : PartR) : cntL (cPart.cels x) = (1 + ((celRow cInt x.st).cnt + ((celRow cIno x.ino).cnt + 0))) := rfl

end Go.Proofs.YtmkchilhnmkhkaaDoor
namespace Go.Proofs.YtmkchilhnmkhkaaDoor
open Go.RowKit Go.Proofs.YtmkchilhnmkhkaaDoor.Parts Go.Proofs.YtmkchilhnmkhkaaDoor.Hexa

set_option maxRecDepth 100000 in
set_option maxHeartbeats 1000000 in
theorem szIntS_any (v : Value) (L : List Int) (l0 : Int) (w : World) (hl0 : 0 ≤ l0) (hl1 : l0 ≤ 1048576) (hs : (celRow cInt L).Rd w v) (ht : (celRow cInt L).Ty) :
    Calls Tryd.prog 61 #[v, .int .i64 l0] w (SzPost ((celRow cInt L).sz) l0 w) := by
  obtain ⟨a, n, c, rfl, hn⟩ := row_form hs
  have hn0 : n ≤ 9223372036854775807 := by rw [← hn]; exact ht.1
  have hz : (celRow cInt L).sz = n := by
    have h1 : ∀ M : List Int, szL (celsE cInt M) = 0 := by
      intro M
      induction M with
      | nil => rfl
      | cons x r ih => rw [celsE, szL_append, ih]; rfl
    show L.length + szL (celsE cInt L) = n
    have := h1 L
    omega
  clear hs ht hn
  by_cases hlt0 : l0 - (n : Int) < 0
  · go_enter Tryd.func61, Tryd.ntmps61
    go_wp2
    go_ret
    exact ⟨-1, rfl, .inl (by omega), Below.refl _ _⟩
  · go_enter Tryd.func61, Tryd.ntmps61
    go_wp2
    go_ret
    refine ⟨_, rfl, .inr ⟨by omega, ?_⟩, Below.refl _ _⟩
    first | omega | (rw [hz]; omega)
end Go.Proofs.YtmkchilhnmkhkaaDoor
namespace Go.Proofs.YtmkchilhnmkhkaaDoor
open Go.RowKit Go.Proofs.YtmkchilhnmkhkaaDoor.Parts Go.Proofs.YtmkchilhnmkhkaaDoor.Hexa

set_option maxRecDepth 100000 in
set_option maxHeartbeats 1000000 in
theorem szRec_st (x : RecR) (l : Int) (w : World) (l0 : 0 ≤ l) (l1 : l ≤ 1048576) (ht : TyL (cRec.cels x)) :
    Calls Tryd.prog 163 #[.agg #[.int .i64 x.f0, .int .i64 x.f1, .string x.f2], .int .i64 l] w (SzPost (szL (cRec.cels x)) l w) := by
  have hz := cRec_sz x
  obtain ⟨t0, t1, t2, _⟩ := ht
  have k2 : x.f2.size ≤ 9223372036854775807 := Nat.le_trans t2 (by decide)
  clear t0 t1 t2
  have B0 := Lib.hid (below_bk w (.cells #[.int .i64 x.f0, .int .i64 x.f1, .string x.f2] 202))
  have T0 := Lib.hid (Bk.alloc w #[.int .i64 x.f0, .int .i64 x.f1, .string x.f2] 202)
  by_cases b2 : l - (x.f2.size : Int) < 0
  · go_enter Tryd.func163, Tryd.ntmps163
    go_wp2
    go_ret
    exact ⟨-1, rfl, .inl (by omega), B0.out⟩
  go_enter Tryd.func163, Tryd.ntmps163
  go_wp2
  go_ret
  refine ⟨_, rfl, .inr ⟨by omega, ?_⟩, B0.out⟩
  first | omega | (rw [hz]; omega)

end Go.Proofs.YtmkchilhnmkhkaaDoor
namespace Go.Proofs.YtmkchilhnmkhkaaDoor
open Go.RowKit Go.Proofs.YtmkchilhnmkhkaaDoor.Parts Go.Proofs.YtmkchilhnmkhkaaDoor.Hexa

set_option maxRecDepth 100000 in
set_option maxHeartbeats 1000000 in
theorem szRecS_any (v : Value) (L : List RecR) (l0 : Int) (w : World) (hl0 : 0 ≤ l0) (hl1 : l0 ≤ 1048576) (hs : (celRow cRec L).Rd w v) (ht : (celRow cRec L).Ty) :
    Calls Tryd.prog 147 #[v, .int .i64 l0] w (SzPost ((celRow cRec L).sz) l0 w) := by
  obtain ⟨a, n, c, rfl, hn⟩ := row_form hs
  have HS := Lib.hid hs
  have HT : Hid (TyL (celsE cRec L)) := Lib.hid ht.2
  have hn0 : n ≤ 9223372036854775807 := by rw [← hn]; exact ht.1
  have HZ : Hid ((celRow cRec L).sz = n + szL (celsE cRec L)) := Lib.hid (by rw [← hn]; rfl)
  have HN := Lib.hid hn
  clear hs ht hn
  by_cases hlt0 : l0 - (n : Int) < 0
  · go_enter Tryd.func147, Tryd.ntmps147
    go_wp2
    go_ret
    exact ⟨-1, rfl, .inl (by omega), Below.refl _ _⟩
  · go_enter Tryd.func147, Tryd.ntmps147
    go_wp2
    go_loopw [1, 5] (fun lv iv wr => ∃ (k : Nat) (l : Int), k ≤ n ∧ iv = .int .i64 k ∧ lv = .int .i64 l ∧ 0 ≤ l ∧ l ≤ l0 ∧ Hid (l + (n : Int) + (szL (celsE cRec (L.take k)) : Int) = l0) ∧ Below w.heap.size w wr) (fun _ iv _ => n - (intOf iv).toNat)
    case atStart => exact ⟨0, _, Nat.zero_le _, rfl, rfl, by omega, by omega, Lib.hid (by simp only [List.take_zero, celsE, szL]; omega), Below.refl _ _⟩
    case round =>
      obtain ⟨k, l, hk, rfl, rfl, h0, hl, HA, hbel⟩ := hrel
      by_cases hlt : k < n
      · have HX := Lib.hid (TyL_at cRec L k HT.out (by rw [HN.out]; exact hlt))
        have HQ := Lib.hid (szL_next cRec (L := L) (j := k) (by rw [HN.out]; exact hlt))
        obtain ⟨g, off, rfl, hg, d0, d1, d2⟩ := cRec_at (Cel.Rd.later hbel _ _ HS.out) k hlt
        obtain ⟨x, hx⟩ : ∃ x, L.getD k default = x := ⟨_, rfl⟩
        rw [hx] at d0 d1 d2  HX HQ
        clear hx
        go_wp2_with fail
        refine (szRec_st x l _ h0 (by omega) HX.out).mono ?_
        rintro e w1 ⟨r, rfl, hr, hb1⟩
        have hb2 : Below w.heap.size w w1 := hbel.trans (hb1.mono hbel.size)
        clear d0 d1 d2  hb1
        rcases hr with h1 | ⟨h1, h2⟩
        · go_wp2
          go_ret
          exact ⟨-1, rfl, .inl (by omega), hb2⟩
        · have HA2 : Hid (r + (n : Int) + (szL (celsE cRec (L.take (k + 1))) : Int) = l0) := Lib.hid (by have h3 := HQ.out; have h4 := HA.out; omega)
          have hr2 : r ≤ l0 := by omega
          clear HA HQ h2
          go_wp2
          go_roundw
          case rel => exact ⟨k + 1, r, by omega, by go_num, rfl, h1, hr2, HA2, hb2⟩
          case measure => (simp [intOf]; try omega)
      · obtain rfl : k = n := by omega
        go_wp2
        go_ret
        refine ⟨l, rfl, .inr ⟨h0, ?_⟩, hbel⟩
        have h9 := HA.out
        rw [List.take_of_length_le (by rw [HN.out]; omega)] at h9
        rw [HZ.out]
        omega

end Go.Proofs.YtmkchilhnmkhkaaDoor
namespace Go.Proofs.YtmkchilhnmkhkaaDoor
open Go.RowKit Go.Proofs.YtmkchilhnmkhkaaDoor.Parts Go.Proofs.YtmkchilhnmkhkaaDoor.Hexa

set_option maxRecDepth 100000 in
set_option maxHeartbeats 1000000 in
theorem szEntry_st (x : EntryR) (l : Int) (w : World) (l0 : 0 ≤ l) (l1 : l ≤ 1048576) (ht : TyL (cEntry.cels x)) :
    Calls Tryd.prog 164 #[.agg #[.int .i64 x.f0, .string x.f1], .int .i64 l] w (SzPost (szL (cEntry.cels x)) l w) := by
  have hz := cEntry_sz x
  obtain ⟨t0, t1, _⟩ := ht
  have k1 : x.f1.size ≤ 9223372036854775807 := Nat.le_trans t1 (by decide)
  clear t0 t1
  have B0 := Lib.hid (below_bk w (.cells #[.int .i64 x.f0, .string x.f1] 204))
  have T0 := Lib.hid (Bk.alloc w #[.int .i64 x.f0, .string x.f1] 204)
  by_cases b1 : l - (x.f1.size : Int) < 0
  · go_enter Tryd.func164, Tryd.ntmps164
    go_wp2
    go_ret
    exact ⟨-1, rfl, .inl (by omega), B0.out⟩
  go_enter Tryd.func164, Tryd.ntmps164
  go_wp2
  go_ret
  refine ⟨_, rfl, .inr ⟨by omega, ?_⟩, B0.out⟩
  first | omega | (rw [hz]; omega)

end Go.Proofs.YtmkchilhnmkhkaaDoor
namespace Go.Proofs.YtmkchilhnmkhkaaDoor
open Go.RowKit Go.Proofs.YtmkchilhnmkhkaaDoor.Parts Go.Proofs.YtmkchilhnmkhkaaDoor.Hexa

set_option maxRecDepth 100000 in
set_option maxHeartbeats 1000000 in
theorem szEntryS_any (v : Value) (L : List EntryR) (l0 : Int) (w : World) (hl0 : 0 ≤ l0) (hl1 : l0 ≤ 1048576) (hs : (celRow cEntry L).Rd w v) (ht : (celRow cEntry L).Ty) :
    Calls Tryd.prog 148 #[v, .int .i64 l0] w (SzPost ((celRow cEntry L).sz) l0 w) := by
  obtain ⟨a, n, c, rfl, hn⟩ := row_form hs
  have HS := Lib.hid hs
  have HT : Hid (TyL (celsE cEntry L)) := Lib.hid ht.2
  have hn0 : n ≤ 9223372036854775807 := by rw [← hn]; exact ht.1
  have HZ : Hid ((celRow cEntry L).sz = n + szL (celsE cEntry L)) := Lib.hid (by rw [← hn]; rfl)
  have HN := Lib.hid hn
  clear hs ht hn
  by_cases hlt0 : l0 - (n : Int) < 0
  · go_enter Tryd.func148, Tryd.ntmps148
    go_wp2
    go_ret
    exact ⟨-1, rfl, .inl (by omega), Below.refl _ _⟩
  · go_enter Tryd.func148, Tryd.ntmps148
    go_wp2
    go_loopw [1, 5] (fun lv iv wr => ∃ (k : Nat) (l : Int), k ≤ n ∧ iv = .int .i64 k ∧ lv = .int .i64 l ∧ 0 ≤ l ∧ l ≤ l0 ∧ Hid (l + (n : Int) + (szL (celsE cEntry (L.take k)) : Int) = l0) ∧ Below w.heap.size w wr) (fun _ iv _ => n - (intOf iv).toNat)
    case atStart => exact ⟨0, _, Nat.zero_le _, rfl, rfl, by omega, by omega, Lib.hid (by simp only [List.take_zero, celsE, szL]; omega), Below.refl _ _⟩
    case round =>
      obtain ⟨k, l, hk, rfl, rfl, h0, hl, HA, hbel⟩ := hrel
      by_cases hlt : k < n
      · have HX := Lib.hid (TyL_at cEntry L k HT.out (by rw [HN.out]; exact hlt))
        have HQ := Lib.hid (szL_next cEntry (L := L) (j := k) (by rw [HN.out]; exact hlt))
        obtain ⟨g, off, rfl, hg, d0, d1⟩ := cEntry_at (Cel.Rd.later hbel _ _ HS.out) k hlt
        obtain ⟨x, hx⟩ : ∃ x, L.getD k default = x := ⟨_, rfl⟩
        rw [hx] at d0 d1  HX HQ
        clear hx
        go_wp2_with fail
        refine (szEntry_st x l _ h0 (by omega) HX.out).mono ?_
        rintro e w1 ⟨r, rfl, hr, hb1⟩
        have hb2 : Below w.heap.size w w1 := hbel.trans (hb1.mono hbel.size)
        clear d0 d1  hb1
        rcases hr with h1 | ⟨h1, h2⟩
        · go_wp2
          go_ret
          exact ⟨-1, rfl, .inl (by omega), hb2⟩
        · have HA2 : Hid (r + (n : Int) + (szL (celsE cEntry (L.take (k + 1))) : Int) = l0) := Lib.hid (by have h3 := HQ.out; have h4 := HA.out; omega)
          have hr2 : r ≤ l0 := by omega
          clear HA HQ h2
          go_wp2
          go_roundw
          case rel => exact ⟨k + 1, r, by omega, by go_num, rfl, h1, hr2, HA2, hb2⟩
          case measure => (simp [intOf]; try omega)
      · obtain rfl : k = n := by omega
        go_wp2
        go_ret
        refine ⟨l, rfl, .inr ⟨h0, ?_⟩, hbel⟩
        have h9 := HA.out
        rw [List.take_of_length_le (by rw [HN.out]; omega)] at h9
        rw [HZ.out]
        omega

end Go.Proofs.YtmkchilhnmkhkaaDoor
namespace Go.Proofs.YtmkchilhnmkhkaaDoor
open Go.RowKit Go.Proofs.YtmkchilhnmkhkaaDoor.Parts Go.Proofs.YtmkchilhnmkhkaaDoor.Hexa

set_option maxRecDepth 100000 in
set_option maxHeartbeats 1000000 in
theorem szIno_st (x : InoR) (a4 : Option Addr) (c4 : Nat) (a5 : Option Addr) (c5 : Nat) (l : Int) (w : World) (l0 : 0 ≤ l) (l1 : l ≤ 1048576) (h4 : (celRow cRec x.R).Rd w (.slice a4 x.R.length c4)) (h5 : (celRow cEntry x.E).Rd w (.slice a5 x.E.length c5)) (ht : TyL (cIno.cels x)) :
    Calls Tryd.prog 114 #[.agg #[.int .i64 x.kd, .int .i64 x.sz, .int .i64 x.gn, .string x.key, .slice a4 x.R.length c4, .slice a5 x.E.length c5], .int .i64 l] w (SzPost (szL (cIno.cels x)) l w) := by
  have hz := cIno_sz x
  obtain ⟨t0, t1, t2, t3, t4, t5, _⟩ := ht
  have k3 : x.key.size ≤ 9223372036854775807 := Nat.le_trans t3 (by decide)
  clear t0 t1 t2 t3
  have HS4 := Lib.hid h4
  have HT4 := Lib.hid t4
  have HS5 := Lib.hid h5
  have HT5 := Lib.hid t5
  clear h4 t4 h5 t5
  have B0 := Lib.hid (below_bk w (.cells #[.int .i64 x.kd, .int .i64 x.sz, .int .i64 x.gn, .string x.key, .slice a4 x.R.length c4, .slice a5 x.E.length c5] 146))
  have T0 := Lib.hid (Bk.alloc w #[.int .i64 x.kd, .int .i64 x.sz, .int .i64 x.gn, .string x.key, .slice a4 x.R.length c4, .slice a5 x.E.length c5] 146)
  by_cases b3 : l - (x.key.size : Int) < 0
  · go_enter Tryd.func114, Tryd.ntmps114
    go_wp2
    go_ret
    exact ⟨-1, rfl, .inl (by omega), B0.out⟩
  obtain ⟨m0, hm0⟩ : ∃ m : Int, l - (x.key.size : Int) = m := ⟨_, rfl⟩
  have g0 : 0 ≤ m0 := by omega
  have g1 : m0 ≤ 1048576 := by omega
  have HM0 := Lib.hid hm0
  clear b3 k3
  have HZ := Lib.hid hz
  clear hz
  go_enter Tryd.func114, Tryd.ntmps114
  go_wp2_with fail
  clear hm0
  refine (szRecS_any _ x.R m0 _ g0 g1 (Cel.Rd.later B0.out _ _ HS4.out) HT4.out).mono ?_
  rintro e w1 ⟨m1, rfl, hr, hb⟩
  have B1 : Hid (Below w.heap.size w w1) := Lib.hid (B0.out.trans (hb.mono B0.out.size))
  have T1 := Lib.hid (T0.out.later hb)
  have d5 := T1.out.cell (j := 5) rfl
  clear hb
  rcases hr with hr | ⟨p0, p1⟩
  · go_wp2
    go_ret
    exact ⟨-1, rfl, .inl (by omega), B1.out⟩
  have HM1 := Lib.hid p1
  have g10 := p0
  have g11 : m1 ≤ 1048576 := by omega
  have q1 : ¬ (m1 < 0) := by omega
  clear p0 p1
  go_wp2_with fail
  refine (szEntryS_any _ x.E m1 _ g10 g11 (Cel.Rd.later B1.out _ _ HS5.out) HT5.out).mono ?_
  rintro e w2 ⟨m2, rfl, hr, hb⟩
  have B2 : Hid (Below w.heap.size w w2) := Lib.hid (B1.out.trans (hb.mono B1.out.size))
  have T2 := Lib.hid (T1.out.later hb)
  clear hb
  rcases hr with hr | ⟨p0, p1⟩
  · go_wp2
    go_ret
    exact ⟨-1, rfl, .inl (by omega), B2.out⟩
  have HM2 := Lib.hid p1
  have g20 := p0
  have g21 : m2 ≤ 1048576 := by omega
  have q2 : ¬ (m2 < 0) := by omega
  clear p0 p1
  go_wp2
  go_ret
  exact ⟨m2, rfl, .inr ⟨g20, by have := HZ.out; have := HM0.out; have := HM1.out; have := HM2.out; omega⟩, B2.out⟩

end Go.Proofs.YtmkchilhnmkhkaaDoor
namespace Go.Proofs.YtmkchilhnmkhkaaDoor
open Go.RowKit Go.Proofs.YtmkchilhnmkhkaaDoor.Parts Go.Proofs.YtmkchilhnmkhkaaDoor.Hexa

set_option maxRecDepth 100000 in
set_option maxHeartbeats 1000000 in
theorem szInoS_any (v : Value) (L : List InoR) (l0 : Int) (w : World) (hl0 : 0 ≤ l0) (hl1 : l0 ≤ 1048576) (hs : (celRow cIno L).Rd w v) (ht : (celRow cIno L).Ty) :
    Calls Tryd.prog 62 #[v, .int .i64 l0] w (SzPost ((celRow cIno L).sz) l0 w) := by
  obtain ⟨a, n, c, rfl, hn⟩ := row_form hs
  have HS := Lib.hid hs
  have HT : Hid (TyL (celsE cIno L)) := Lib.hid ht.2
  have hn0 : n ≤ 9223372036854775807 := by rw [← hn]; exact ht.1
  have HZ : Hid ((celRow cIno L).sz = n + szL (celsE cIno L)) := Lib.hid (by rw [← hn]; rfl)
  have HN := Lib.hid hn
  clear hs ht hn
  by_cases hlt0 : l0 - (n : Int) < 0
  · go_enter Tryd.func62, Tryd.ntmps62
    go_wp2
    go_ret
    exact ⟨-1, rfl, .inl (by omega), Below.refl _ _⟩
  · go_enter Tryd.func62, Tryd.ntmps62
    go_wp2
    go_loopw [1, 5] (fun lv iv wr => ∃ (k : Nat) (l : Int), k ≤ n ∧ iv = .int .i64 k ∧ lv = .int .i64 l ∧ 0 ≤ l ∧ l ≤ l0 ∧ Hid (l + (n : Int) + (szL (celsE cIno (L.take k)) : Int) = l0) ∧ Below w.heap.size w wr) (fun _ iv _ => n - (intOf iv).toNat)
    case atStart => exact ⟨0, _, Nat.zero_le _, rfl, rfl, by omega, by omega, Lib.hid (by simp only [List.take_zero, celsE, szL]; omega), Below.refl _ _⟩
    case round =>
      obtain ⟨k, l, hk, rfl, rfl, h0, hl, HA, hbel⟩ := hrel
      by_cases hlt : k < n
      · have HX := Lib.hid (TyL_at cIno L k HT.out (by rw [HN.out]; exact hlt))
        have HQ := Lib.hid (szL_next cIno (L := L) (j := k) (by rw [HN.out]; exact hlt))
        obtain ⟨g, off, a4, c4, a5, c5, rfl, hg, d0, d1, d2, d3, d4, d5, r4, r5⟩ := cIno_at (Cel.Rd.later hbel _ _ HS.out) k hlt
        obtain ⟨x, hx⟩ : ∃ x, L.getD k default = x := ⟨_, rfl⟩
        rw [hx] at d0 d1 d2 d3 d4 d5 r4 r5 HX HQ
        clear hx
        go_wp2_with fail
        refine (szIno_st x a4 c4 a5 c5 l _ h0 (by omega) r4 r5 HX.out).mono ?_
        rintro e w1 ⟨r, rfl, hr, hb1⟩
        have hb2 : Below w.heap.size w w1 := hbel.trans (hb1.mono hbel.size)
        clear d0 d1 d2 d3 d4 d5 r4 r5 hb1
        rcases hr with h1 | ⟨h1, h2⟩
        · go_wp2
          go_ret
          exact ⟨-1, rfl, .inl (by omega), hb2⟩
        · have HA2 : Hid (r + (n : Int) + (szL (celsE cIno (L.take (k + 1))) : Int) = l0) := Lib.hid (by have h3 := HQ.out; have h4 := HA.out; omega)
          have hr2 : r ≤ l0 := by omega
          clear HA HQ h2
          go_wp2
          go_roundw
          case rel => exact ⟨k + 1, r, by omega, by go_num, rfl, h1, hr2, HA2, hb2⟩
          case measure => (simp [intOf]; try omega)
      · obtain rfl : k = n := by omega
        go_wp2
        go_ret
        refine ⟨l, rfl, .inr ⟨h0, ?_⟩, hbel⟩
        have h9 := HA.out
        rw [List.take_of_length_le (by rw [HN.out]; omega)] at h9
        rw [HZ.out]
        omega

end Go.Proofs.YtmkchilhnmkhkaaDoor
namespace Go.Proofs.YtmkchilhnmkhkaaDoor
open Go.RowKit Go.Proofs.YtmkchilhnmkhkaaDoor.Parts Go.Proofs.YtmkchilhnmkhkaaDoor.Hexa

set_option maxRecDepth 100000 in
set_option maxHeartbeats 1000000 in
theorem szPart_st (x : PartR) (a1 : Option Addr) (c1 : Nat) (a2 : Option Addr) (c2 : Nat) (l : Int) (w : World) (l0 : 0 ≤ l) (l1 : l ≤ 1048576) (h1 : (celRow cInt x.st).Rd w (.slice a1 x.st.length c1)) (h2 : (celRow cIno x.ino).Rd w (.slice a2 x.ino.length c2)) (ht : TyL (cPart.cels x)) :
    Calls Tryd.prog 27 #[.agg #[.int .i64 x.ser, .slice a1 x.st.length c1, .slice a2 x.ino.length c2], .int .i64 l] w (SzPost (szL (cPart.cels x)) l w) := by
  have hz := cPart_sz x
  obtain ⟨t0, t1, t2, _⟩ := ht
  clear t0
  have HS1 := Lib.hid h1
  have HT1 := Lib.hid t1
  have HS2 := Lib.hid h2
  have HT2 := Lib.hid t2
  clear h1 t1 h2 t2
  have B0 := Lib.hid (below_bk w (.cells #[.int .i64 x.ser, .slice a1 x.st.length c1, .slice a2 x.ino.length c2] 37))
  have T0 := Lib.hid (Bk.alloc w #[.int .i64 x.ser, .slice a1 x.st.length c1, .slice a2 x.ino.length c2] 37)
  obtain ⟨m0, hm0⟩ : ∃ m : Int, l = m := ⟨_, rfl⟩
  subst hm0
  have hm0 : l = l := rfl
  have g0 := l0
  have g1 := l1
  have HM0 : Hid (l = l) := Lib.hid hm0
  have HZ := Lib.hid hz
  clear hz
  go_enter Tryd.func27, Tryd.ntmps27
  go_wp2_with fail
  refine (szIntS_any _ x.st l _ g0 g1 (Cel.Rd.later B0.out _ _ HS1.out) HT1.out).mono ?_
  rintro e w1 ⟨m1, rfl, hr, hb⟩
  have B1 : Hid (Below w.heap.size w w1) := Lib.hid (B0.out.trans (hb.mono B0.out.size))
  have T1 := Lib.hid (T0.out.later hb)
  have d2 := T1.out.cell (j := 2) rfl
  clear hb
  rcases hr with hr | ⟨p0, p1⟩
  · go_wp2
    go_ret
    exact ⟨-1, rfl, .inl (by omega), B1.out⟩
  have HM1 := Lib.hid p1
  have g10 := p0
  have g11 : m1 ≤ 1048576 := by omega
  have q1 : ¬ (m1 < 0) := by omega
  clear p0 p1
  go_wp2_with fail
  refine (szInoS_any _ x.ino m1 _ g10 g11 (Cel.Rd.later B1.out _ _ HS2.out) HT2.out).mono ?_
  rintro e w2 ⟨m2, rfl, hr, hb⟩
  have B2 : Hid (Below w.heap.size w w2) := Lib.hid (B1.out.trans (hb.mono B1.out.size))
  have T2 := Lib.hid (T1.out.later hb)
  clear hb
  rcases hr with hr | ⟨p0, p1⟩
  · go_wp2
    go_ret
    exact ⟨-1, rfl, .inl (by omega), B2.out⟩
  have HM2 := Lib.hid p1
  have g20 := p0
  have g21 : m2 ≤ 1048576 := by omega
  have q2 : ¬ (m2 < 0) := by omega
  clear p0 p1
  go_wp2
  go_ret
  exact ⟨m2, rfl, .inr ⟨g20, by have := HZ.out; have := HM0.out; have := HM1.out; have := HM2.out; omega⟩, B2.out⟩

end Go.Proofs.YtmkchilhnmkhkaaDoor
namespace Go.Proofs.YtmkchilhnmkhkaaDoor
open Go.RowKit Go.Proofs.YtmkchilhnmkhkaaDoor.Parts Go.Proofs.YtmkchilhnmkhkaaDoor.Hexa

/-- What the copy returns. -/
def CopyPost (n : Nat) (zs : List Int) (w : World) (e : Ending) (w' : World) : Prop :=
  e = .returned (.slice (some ⟨w.heap.size, 0, none⟩) n n) ∧ w'.ownsRow w.heap.size 3 1 (.slice (some ⟨w.heap.size, 0, none⟩) n n) n (icells zs) ∧ Below w.heap.size w w'

set_option maxRecDepth 100000 in
set_option maxHeartbeats 1000000 in
theorem toInts_any (a : Option Addr) (n c : Nat) (zs : List Int) (w : World) (hs : SrcI w a n zs) (hn : n ≤ 10000000) :
    Calls Tryd.prog 63 #[.slice a n c] w (CopyPost n zs w) := by
  obtain ⟨i0, hi, hz0, hz1, hz2⟩ := info_parts infoInt
  have HS := Lib.hid hs
  clear hs
  go_enter Tryd.func63, Tryd.ntmps63
  go_wp2_with (at_make; refine wpList_make_full _ rfl _ _ 34 rfl w.heap.size 3 i0 (.int .i64 0) 1 Tryd.underlying34 hi hz0 hz1 .i64 .i64 _ _ n rfl rfl rfl rfl (by rw [hz2]; omega) (by unfold maxLen; omega) (Nat.le_refl _) ?_; intro w0 hown0 hgrow0)
  have hg0 : Below w.heap.size w w0 := (Below.refl _ _).grown hgrow0 (Nat.le_refl _) (fun k h => by cases h)
  have HO0 := Lib.hid hown0
  clear hown0 hgrow0
  go_loopw [4] (fun iv wr => ∃ (k : Nat) (xs : List Value), k ≤ n ∧ iv = .int .i64 k ∧ Hid (wr.ownsRow w.heap.size 3 1 (.slice (some ⟨w.heap.size, 0, none⟩) n n) n xs) ∧ Hid (∀ j, j < k → xs[j]? = (icells zs)[j]?) ∧ Below w.heap.size w wr)
    (fun iv _ => n - (intOf iv).toNat)
  case atStart => exact ⟨0, _, Nat.zero_le _, rfl, HO0, Lib.hid (fun j hj => by omega), hg0⟩
  case round =>
    clear HO0 hg0
    obtain ⟨k, xs, hk, rfl, HW, HX, hbel⟩ := hrel
    have hxl : Hid (xs.length = n) := Lib.hid (own_length HW.out)
    by_cases hlt : k < n
    · obtain ⟨g, off, rfl, hgl, hc⟩ := HS.out.cell k hlt
      have hc0 : wr.cell? ⟨g, off + k, none⟩ = some (.int .i64 (zs.getD k 0)) := by rw [hbel.cell hgl]; exact hc
      have HE : Hid ((icells zs)[k]? = some (.int .i64 (zs.getD k 0))) := Lib.hid (by
        have hk' : k < zs.length := by have := HS.out.len; omega
        simp [icells, List.getD, hk'])
      obtain ⟨z, hz⟩ : ∃ z, zs.getD k 0 = z := ⟨_, rfl⟩
      rw [hz] at hc0 HE
      have c3 : ∃ v, wr.cell? ⟨w.heap.size, k, none⟩ = some v := ⟨xs[k]'(by have := hxl.out; omega), by rw [HW.out.cellAt k (by omega)]; simp [hxl.out, hlt]⟩
      obtain ⟨v3, c3⟩ := c3
      have z3 := HW.out.frozenAt k
      have O1 := Lib.hid (HW.out.stored k (.int .i64 z)).1
      have hb1 : Below w.heap.size w (wr.setCell ⟨w.heap.size, k, none⟩ (.int .i64 z)) := hbel.setCell (Nat.le_refl _) _
      have X1 : Hid (∀ j, j < k + 1 → (xs.set k (.int .i64 z))[j]? = (icells zs)[j]?) := Lib.hid (fun j hj => by
        by_cases e : j = k
        · subst e; rw [List.getElem?_set_self (by have := hxl.out; omega), HE.out]
        · rw [List.getElem?_set_ne (by omega)]; exact HX.out j (by omega))
      clear hc hz
      go_wp2
      go_roundw
      case rel => exact ⟨k + 1, _, by omega, by go_num, O1, X1, hb1⟩
      case measure => (simp [intOf]; try omega)
    · obtain rfl : k = n := by omega
      have hfin : xs = icells zs := by
        apply List.ext_getElem?
        intro j
        by_cases hj : j < k
        · exact HX.out j hj
        · rw [List.getElem?_eq_none (by have := hxl.out; omega), List.getElem?_eq_none (by rw [icells_length]; have := HS.out.len; omega)]
      have ho := HW.out
      rw [hfin] at ho
      have HO := Lib.hid ho
      clear ho hfin
      go_wp2
      go_ret
      exact ⟨rfl, HO.out, hbel⟩

end Go.Proofs.YtmkchilhnmkhkaaDoor
namespace Go.Proofs.YtmkchilhnmkhkaaDoor
open Go.RowKit Go.Proofs.YtmkchilhnmkhkaaDoor.Parts Go.Proofs.YtmkchilhnmkhkaaDoor.Hexa

theorem toIntS_any (v : Value) (L : List Int) (w : World) (hs : (celRow cInt L).Rd w v) (hz : (celRow cInt L).sz ≤ 1048576) :
    Calls Tryd.prog 63 #[v] w (ToPost (celRow cInt L) w) := by
  obtain ⟨a, n, c, rfl, hn⟩ := row_form hs
  rw [szInts_eq, hn] at hz
  refine (toInts_any a n c L w (srcI_of_rd hs) (by omega)).mono ?_
  rintro e w' ⟨rfl, ho, hb⟩
  exact ⟨_, rfl, obj_ints ho (Nat.le_refl _) (Nat.le_refl _), hb⟩
end Go.Proofs.YtmkchilhnmkhkaaDoor
namespace Go.Proofs.YtmkchilhnmkhkaaDoor
open Go.RowKit Go.Proofs.YtmkchilhnmkhkaaDoor.Parts Go.Proofs.YtmkchilhnmkhkaaDoor.Hexa

set_option maxRecDepth 100000 in
set_option maxHeartbeats 1000000 in
theorem toRec_st (x : RecR) (w : World) (_ : szL (cRec.cels x) ≤ 1048576) :
    Calls Tryd.prog 165 #[.agg #[.int .i64 x.f0, .int .i64 x.f1, .string x.f2]] w (ToPostS (cRec.cels x) w) := by
  go_enter Tryd.func165, Tryd.ntmps165
  go_wp2
  refine bodyPost_ret (v := .agg #[.int .i64 x.f0, .int .i64 x.f1, .string x.f2]) ?_ rfl ⟨_, rfl, (((Objs.nil _ _ _).val _).val _).val _, (((Below.refl _ _).alloc (Nat.le_refl _) _).alloc (by simp) _).alloc (by simp; omega) _⟩
  simp [results, Tryd.results165, go_sem]

end Go.Proofs.YtmkchilhnmkhkaaDoor
namespace Go.Proofs.YtmkchilhnmkhkaaDoor
open Go.RowKit Go.Proofs.YtmkchilhnmkhkaaDoor.Parts Go.Proofs.YtmkchilhnmkhkaaDoor.Hexa

set_option maxRecDepth 100000 in
set_option maxHeartbeats 1000000 in
theorem toRecS_any (v : Value) (L : List RecR) (w : World) (hs : (celRow cRec L).Rd w v) (hz : (celRow cRec L).sz ≤ 1048576) :
    Calls Tryd.prog 149 #[v] w (ToPost (celRow cRec L) w) := by
  obtain ⟨i0, hi, hz0, hz1, hz2⟩ := info_parts infoRecD
  obtain ⟨a, n, c, rfl, hn⟩ := row_form hs
  have HS := Lib.hid hs
  have hz' : n + szL (celsE cRec L) ≤ 1048576 := by rw [← hn]; exact hz
  have hn1 : n ≤ 1048576 := by omega
  have HZ : Hid (szL (celsE cRec L) ≤ 1048576) := Lib.hid (by omega)
  have HN := Lib.hid hn
  clear hs hz hz' hn
  go_enter Tryd.func149, Tryd.ntmps149
  go_wp2_with (at_make; refine wpList_make_full _ rfl _ _ 51 rfl w.heap.size 66 i0 _ 3 Tryd.underlying51 hi hz0 hz1 .i64 .i64 _ _ n rfl rfl rfl rfl (by rw [hz2]; omega) (by unfold maxLen; omega) (Nat.le_refl _) ?_; intro w0 hown0 hgrow0)
  have hg0 : Below w.heap.size w w0 := (Below.refl _ _).grown hgrow0 (Nat.le_refl _) (fun k h => by cases h)
  have HO0 : Hid (Part2 cRec L w0 w.heap.size n 0) := Lib.hid (Part2.start hown0)
  clear hown0 hgrow0
  go_loopw [4] (fun iv wr => ∃ (k : Nat), k ≤ n ∧ iv = .int .i64 k ∧ Hid (Part2 cRec L wr w.heap.size n k) ∧ Below w.heap.size w wr)
    (fun iv _ => n - (intOf iv).toNat)
  case atStart => exact ⟨0, Nat.zero_le _, rfl, HO0, hg0⟩
  case round =>
    clear HO0 hg0
    obtain ⟨k, hk, rfl, HW, hbel⟩ := hrel
    by_cases hlt : k < n
    · have HX : Hid (szL (cRec.cels (L.getD k default)) ≤ 1048576) := Lib.hid (Nat.le_trans (szL_at cRec L k (by rw [HN.out]; exact hlt)) HZ.out)
      obtain ⟨g, off, rfl, hg, d0, d1, d2⟩ := cRec_at (Cel.Rd.later hbel _ _ HS.out) k hlt
      have HV : Hid (∀ (w1 : World) (hi : Nat) (vs : List Value), Below wr.heap.size wr w1 → Objs w1 wr.heap.size hi (cRec.cels (L.getD k default)) vs → Part2 cRec L (w1.setCells w.heap.size (k * 3) vs) w.heap.size n (k + 1)) :=
        Lib.hid (fun w1 hi vs hb ho => HW.out.next HN.out hlt hb ho)
      obtain ⟨x, hx⟩ : ∃ x, L.getD k default = x := ⟨_, rfl⟩
      rw [hx] at d0 d1 d2  HX HV
      clear hx
      go_wp2_with fail
      refine (toRec_st x _ HX.out).mono ?_
      rintro e w1 ⟨vs, rfl, ho, hb1⟩
      have hbx : Below w.heap.size w w1 := hbel.trans (hb1.mono hbel.size)
      have O1 := Lib.hid (HV.out w1 _ vs hb1 ho)
      obtain rfl := cRec_form ho.rd
      obtain ⟨xs, G, hrow, _, _, _⟩ := (HW.out.later hb1).ex
      have HW1 := Lib.hid hrow
      clear hrow
      obtain ⟨v0, e0⟩ := ownE_cell HW1.out (j := k * 3) (by show k * 3 < n * 3; omega)
      obtain ⟨v1, e1⟩ := ownE_cell HW1.out (j := k * 3 + 1) (by show k * 3 + 1 < n * 3; omega)
      obtain ⟨v2, e2⟩ := ownE_cell HW1.out (j := k * 3 + 2) (by show k * 3 + 2 < n * 3; omega)
      have z0 := HW1.out.frozenAt (k * 3)
      have z1 := HW1.out.frozenAt (k * 3 + 1)
      have z2 := HW1.out.frozenAt (k * 3 + 2)
      have hb2 := Lib.hid (below_sets (Nat.le_refl w.heap.size) [.int .i64 x.f0, .int .i64 x.f1, .string x.f2] (k * 3) hbx)
      clear d0 d1 d2  hb1 hbx ho HW
      go_wp2
      go_roundw
      case rel => exact ⟨k + 1, by omega, by go_num, O1, hb2.out⟩
      case measure => (simp [intOf]; try omega)
    · obtain rfl : k = n := by omega
      have HO := Lib.hid (HW.out.done HN.out)
      go_wp2
      go_ret
      exact ⟨_, rfl, HO.out, hbel⟩

end Go.Proofs.YtmkchilhnmkhkaaDoor
namespace Go.Proofs.YtmkchilhnmkhkaaDoor
open Go.RowKit Go.Proofs.YtmkchilhnmkhkaaDoor.Parts Go.Proofs.YtmkchilhnmkhkaaDoor.Hexa

set_option maxRecDepth 100000 in
set_option maxHeartbeats 1000000 in
theorem toEntry_st (x : EntryR) (w : World) (_ : szL (cEntry.cels x) ≤ 1048576) :
    Calls Tryd.prog 166 #[.agg #[.int .i64 x.f0, .string x.f1]] w (ToPostS (cEntry.cels x) w) := by
  go_enter Tryd.func166, Tryd.ntmps166
  go_wp2
  refine bodyPost_ret (v := .agg #[.int .i64 x.f0, .string x.f1]) ?_ rfl ⟨_, rfl, ((Objs.nil _ _ _).val _).val _, (((Below.refl _ _).alloc (Nat.le_refl _) _).alloc (by simp) _).alloc (by simp; omega) _⟩
  simp [results, Tryd.results166, go_sem]

end Go.Proofs.YtmkchilhnmkhkaaDoor
namespace Go.Proofs.YtmkchilhnmkhkaaDoor
open Go.RowKit Go.Proofs.YtmkchilhnmkhkaaDoor.Parts Go.Proofs.YtmkchilhnmkhkaaDoor.Hexa

set_option maxRecDepth 100000 in
set_option maxHeartbeats 1000000 in
theorem toEntryS_any (v : Value) (L : List EntryR) (w : World) (hs : (celRow cEntry L).Rd w v) (hz : (celRow cEntry L).sz ≤ 1048576) :
    Calls Tryd.prog 150 #[v] w (ToPost (celRow cEntry L) w) := by
  obtain ⟨i0, hi, hz0, hz1, hz2⟩ := info_parts infoEntryD
  obtain ⟨a, n, c, rfl, hn⟩ := row_form hs
  have HS := Lib.hid hs
  have hz' : n + szL (celsE cEntry L) ≤ 1048576 := by rw [← hn]; exact hz
  have hn1 : n ≤ 1048576 := by omega
  have HZ : Hid (szL (celsE cEntry L) ≤ 1048576) := Lib.hid (by omega)
  have HN := Lib.hid hn
  clear hs hz hz' hn
  go_enter Tryd.func150, Tryd.ntmps150
  go_wp2_with (at_make; refine wpList_make_full _ rfl _ _ 52 rfl w.heap.size 47 i0 _ 2 Tryd.underlying52 hi hz0 hz1 .i64 .i64 _ _ n rfl rfl rfl rfl (by rw [hz2]; omega) (by unfold maxLen; omega) (Nat.le_refl _) ?_; intro w0 hown0 hgrow0)
  have hg0 : Below w.heap.size w w0 := (Below.refl _ _).grown hgrow0 (Nat.le_refl _) (fun k h => by cases h)
  have HO0 : Hid (Part2 cEntry L w0 w.heap.size n 0) := Lib.hid (Part2.start hown0)
  clear hown0 hgrow0
  go_loopw [4] (fun iv wr => ∃ (k : Nat), k ≤ n ∧ iv = .int .i64 k ∧ Hid (Part2 cEntry L wr w.heap.size n k) ∧ Below w.heap.size w wr)
    (fun iv _ => n - (intOf iv).toNat)
  case atStart => exact ⟨0, Nat.zero_le _, rfl, HO0, hg0⟩
  case round =>
    clear HO0 hg0
    obtain ⟨k, hk, rfl, HW, hbel⟩ := hrel
    by_cases hlt : k < n
    · have HX : Hid (szL (cEntry.cels (L.getD k default)) ≤ 1048576) := Lib.hid (Nat.le_trans (szL_at cEntry L k (by rw [HN.out]; exact hlt)) HZ.out)
      obtain ⟨g, off, rfl, hg, d0, d1⟩ := cEntry_at (Cel.Rd.later hbel _ _ HS.out) k hlt
      have HV : Hid (∀ (w1 : World) (hi : Nat) (vs : List Value), Below wr.heap.size wr w1 → Objs w1 wr.heap.size hi (cEntry.cels (L.getD k default)) vs → Part2 cEntry L (w1.setCells w.heap.size (k * 2) vs) w.heap.size n (k + 1)) :=
        Lib.hid (fun w1 hi vs hb ho => HW.out.next HN.out hlt hb ho)
      obtain ⟨x, hx⟩ : ∃ x, L.getD k default = x := ⟨_, rfl⟩
      rw [hx] at d0 d1  HX HV
      clear hx
      go_wp2_with fail
      refine (toEntry_st x _ HX.out).mono ?_
      rintro e w1 ⟨vs, rfl, ho, hb1⟩
      have hbx : Below w.heap.size w w1 := hbel.trans (hb1.mono hbel.size)
      have O1 := Lib.hid (HV.out w1 _ vs hb1 ho)
      obtain rfl := cEntry_form ho.rd
      obtain ⟨xs, G, hrow, _, _, _⟩ := (HW.out.later hb1).ex
      have HW1 := Lib.hid hrow
      clear hrow
      obtain ⟨v0, e0⟩ := ownE_cell HW1.out (j := k * 2) (by show k * 2 < n * 2; omega)
      obtain ⟨v1, e1⟩ := ownE_cell HW1.out (j := k * 2 + 1) (by show k * 2 + 1 < n * 2; omega)
      have z0 := HW1.out.frozenAt (k * 2)
      have z1 := HW1.out.frozenAt (k * 2 + 1)
      have hb2 := Lib.hid (below_sets (Nat.le_refl w.heap.size) [.int .i64 x.f0, .string x.f1] (k * 2) hbx)
      clear d0 d1  hb1 hbx ho HW
      go_wp2
      go_roundw
      case rel => exact ⟨k + 1, by omega, by go_num, O1, hb2.out⟩
      case measure => (simp [intOf]; try omega)
    · obtain rfl : k = n := by omega
      have HO := Lib.hid (HW.out.done HN.out)
      go_wp2
      go_ret
      exact ⟨_, rfl, HO.out, hbel⟩

end Go.Proofs.YtmkchilhnmkhkaaDoor
namespace Go.Proofs.YtmkchilhnmkhkaaDoor
open Go.RowKit Go.Proofs.YtmkchilhnmkhkaaDoor.Parts Go.Proofs.YtmkchilhnmkhkaaDoor.Hexa

set_option maxRecDepth 100000 in
set_option maxHeartbeats 1000000 in
theorem toIno_st (x : InoR) (a4 : Option Addr) (c4 : Nat) (a5 : Option Addr) (c5 : Nat) (w : World) (h4 : (celRow cRec x.R).Rd w (.slice a4 x.R.length c4)) (h5 : (celRow cEntry x.E).Rd w (.slice a5 x.E.length c5)) (hz : szL (cIno.cels x) ≤ 1048576) :
    Calls Tryd.prog 115 #[.agg #[.int .i64 x.kd, .int .i64 x.sz, .int .i64 x.gn, .string x.key, .slice a4 x.R.length c4, .slice a5 x.E.length c5]] w (ToPostS (cIno.cels x) w) := by
  rw [cIno_sz] at hz
  have HS4 := Lib.hid h4
  have HS5 := Lib.hid h5
  clear h4 h5
  have B0 := Lib.hid (below_bk w (.cells #[.int .i64 x.kd, .int .i64 x.sz, .int .i64 x.gn, .string x.key, .slice a4 x.R.length c4, .slice a5 x.E.length c5] 146))
  have W1 : Hid (Bk (w.alloc (.cells #[.int .i64 x.kd, .int .i64 x.sz, .int .i64 x.gn, .string x.key, .slice a4 x.R.length c4, .slice a5 x.E.length c5] 146)) w.heap.size #[.int .i64 x.kd, .int .i64 x.sz, .int .i64 x.gn, .string x.key, .slice a4 x.R.length c4, .slice a5 x.E.length c5] 146) := Lib.hid (Bk.alloc w _ _)
  go_enter Tryd.func115, Tryd.ntmps115
  go_wp2_with fail
  have hb1 := below_bk (w.alloc (.cells #[.int .i64 x.kd, .int .i64 x.sz, .int .i64 x.gn, .string x.key, .slice a4 x.R.length c4, .slice a5 x.E.length c5] 146)) (.cells #[.int .i64 0, .int .i64 0, .int .i64 0, .string ⟨#[]⟩, .slice none 0 0, .slice none 0 0] 54)
  have hb2 := below_bk ((w.alloc (.cells #[.int .i64 x.kd, .int .i64 x.sz, .int .i64 x.gn, .string x.key, .slice a4 x.R.length c4, .slice a5 x.E.length c5] 146)).alloc (.cells #[.int .i64 0, .int .i64 0, .int .i64 0, .string ⟨#[]⟩, .slice none 0 0, .slice none 0 0] 54)) (.cells #[.int .i64 x.kd, .int .i64 x.sz, .int .i64 x.gn, .string x.key, .slice none 0 0, .slice none 0 0] 54)
  have T0 := Lib.hid ((W1.out.later hb1).later hb2)
  have Z0 : Hid (Bk (((w.alloc (.cells #[.int .i64 x.kd, .int .i64 x.sz, .int .i64 x.gn, .string x.key, .slice a4 x.R.length c4, .slice a5 x.E.length c5] 146)).alloc (.cells #[.int .i64 0, .int .i64 0, .int .i64 0, .string ⟨#[]⟩, .slice none 0 0, .slice none 0 0] 54)).alloc (.cells #[.int .i64 x.kd, .int .i64 x.sz, .int .i64 x.gn, .string x.key, .slice none 0 0, .slice none 0 0] 54)) (w.heap.size + 1) #[.int .i64 0, .int .i64 0, .int .i64 0, .string ⟨#[]⟩, .slice none 0 0, .slice none 0 0] 54) := Lib.hid (by
    have h := (Bk.alloc (w.alloc (.cells #[.int .i64 x.kd, .int .i64 x.sz, .int .i64 x.gn, .string x.key, .slice a4 x.R.length c4, .slice a5 x.E.length c5] 146)) #[.int .i64 0, .int .i64 0, .int .i64 0, .string ⟨#[]⟩, .slice none 0 0, .slice none 0 0] 54).later hb2
    simpa using h)
  have O0 : Hid (Bk (((w.alloc (.cells #[.int .i64 x.kd, .int .i64 x.sz, .int .i64 x.gn, .string x.key, .slice a4 x.R.length c4, .slice a5 x.E.length c5] 146)).alloc (.cells #[.int .i64 0, .int .i64 0, .int .i64 0, .string ⟨#[]⟩, .slice none 0 0, .slice none 0 0] 54)).alloc (.cells #[.int .i64 x.kd, .int .i64 x.sz, .int .i64 x.gn, .string x.key, .slice none 0 0, .slice none 0 0] 54)) (w.heap.size + 1 + 1) #[.int .i64 x.kd, .int .i64 x.sz, .int .i64 x.gn, .string x.key, .slice none 0 0, .slice none 0 0] 54) := Lib.hid (by
    have h := Bk.alloc ((w.alloc (.cells #[.int .i64 x.kd, .int .i64 x.sz, .int .i64 x.gn, .string x.key, .slice a4 x.R.length c4, .slice a5 x.E.length c5] 146)).alloc (.cells #[.int .i64 0, .int .i64 0, .int .i64 0, .string ⟨#[]⟩, .slice none 0 0, .slice none 0 0] 54)) #[.int .i64 x.kd, .int .i64 x.sz, .int .i64 x.gn, .string x.key, .slice none 0 0, .slice none 0 0] 54
    simpa using h)
  have B3 : Hid (Below w.heap.size w (((w.alloc (.cells #[.int .i64 x.kd, .int .i64 x.sz, .int .i64 x.gn, .string x.key, .slice a4 x.R.length c4, .slice a5 x.E.length c5] 146)).alloc (.cells #[.int .i64 0, .int .i64 0, .int .i64 0, .string ⟨#[]⟩, .slice none 0 0, .slice none 0 0] 54)).alloc (.cells #[.int .i64 x.kd, .int .i64 x.sz, .int .i64 x.gn, .string x.key, .slice none 0 0, .slice none 0 0] 54))) := Lib.hid ((B0.out.alloc B0.out.size _).alloc (by simp; omega) _)
  have N0 : Hid ((((w.alloc (.cells #[.int .i64 x.kd, .int .i64 x.sz, .int .i64 x.gn, .string x.key, .slice a4 x.R.length c4, .slice a5 x.E.length c5] 146)).alloc (.cells #[.int .i64 0, .int .i64 0, .int .i64 0, .string ⟨#[]⟩, .slice none 0 0, .slice none 0 0] 54)).alloc (.cells #[.int .i64 x.kd, .int .i64 x.sz, .int .i64 x.gn, .string x.key, .slice none 0 0, .slice none 0 0] 54)).heap.size = w.heap.size + 3) := Lib.hid (by simp)
  obtain ⟨V0, hV0⟩ : ∃ y, y = (((w.alloc (.cells #[.int .i64 x.kd, .int .i64 x.sz, .int .i64 x.gn, .string x.key, .slice a4 x.R.length c4, .slice a5 x.E.length c5] 146)).alloc (.cells #[.int .i64 0, .int .i64 0, .int .i64 0, .string ⟨#[]⟩, .slice none 0 0, .slice none 0 0] 54)).alloc (.cells #[.int .i64 x.kd, .int .i64 x.sz, .int .i64 x.gn, .string x.key, .slice none 0 0, .slice none 0 0] 54)) := ⟨_, rfl⟩
  rw [← hV0] at T0 Z0 O0 B3 N0 ⊢
  clear hV0 hb1 hb2 B0 W1
  have SZ0 : Hid (w.heap.size + 3 ≤ V0.heap.size) := Lib.hid (by have := N0.out; omega)
  clear N0
  refine (toRecS_any _ x.R _ (Cel.Rd.later B3.out _ _ HS4.out) (by omega)).mono ?_
  rintro e w1 ⟨u4, rfl, ho, hb⟩
  obtain ⟨p4, m4, s4, rfl, hm⟩ := row_form ho.rd
  subst hm
  have T1a := Lib.hid (T0.out.later hb)
  have Z1a := Lib.hid (Z0.out.later hb)
  have O1a := Lib.hid (O0.out.later hb)
  have B1a : Hid (Below w.heap.size w w1) := Lib.hid (B3.out.trans (hb.mono B3.out.size))
  have SZ1a : Hid (V0.heap.size ≤ w1.heap.size) := Lib.hid hb.size
  have J4_1 := Lib.hid ho
  clear hb ho T0 Z0 O0 B3
  have x4 := O1a.out.cell (j := 4) rfl
  have f4 := O1a.out.fr (o := 4)
  have O2 := Lib.hid (O1a.out.set 4 (.slice p4 x.R.length s4))
  have T2 := Lib.hid (T1a.out.other (c := w.heap.size + 1 + 1) (o := 4) (by omega) (.slice p4 x.R.length s4))
  have Z2 := Lib.hid (Z1a.out.other (c := w.heap.size + 1 + 1) (o := 4) (by omega) (.slice p4 x.R.length s4))
  have B2 : Hid (Below w.heap.size w (w1.setCell ⟨w.heap.size + 1 + 1, 4, none⟩ (.slice p4 x.R.length s4))) := Lib.hid (B1a.out.setCell (by show w.heap.size ≤ w.heap.size + 1 + 1; omega) _)
  have J4_2 := Lib.hid (J4_1.out.kept (w' := w1.setCell ⟨w.heap.size + 1 + 1, 4, none⟩ (.slice p4 x.R.length s4)) (fun g h1 h2 => Below.heap_setCell _ _ _ _ (by show g ≠ w.heap.size + 1 + 1; have := SZ0.out; have := SZ1a.out; omega)))
  clear J4_1
  have t2_5 := T2.out.cell (j := 5) rfl
  clear B1a T1a Z1a O1a
  go_wp2_with fail
  obtain ⟨V2, hV⟩ : ∃ y, y = (w1.setCell ⟨w.heap.size + 1 + 1, 4, none⟩ (.slice p4 x.R.length s4)) := ⟨_, rfl⟩
  rw [← hV] at O2 T2 Z2 B2 J4_2 ⊢
  have SZ2 : Hid (w1.heap.size ≤ V2.heap.size) := Lib.hid (by rw [hV]; simp [World.setCell])
  clear hV x4 f4 t2_5
  refine (toEntryS_any _ x.E _ (Cel.Rd.later B2.out _ _ HS5.out) (by omega)).mono ?_
  rintro e w3 ⟨u5, rfl, ho, hb⟩
  obtain ⟨p5, m5, s5, rfl, hm⟩ := row_form ho.rd
  subst hm
  have T3a := Lib.hid (T2.out.later hb)
  have Z3a := Lib.hid (Z2.out.later hb)
  have O3a := Lib.hid (O2.out.later hb)
  have B3a : Hid (Below w.heap.size w w3) := Lib.hid (B2.out.trans (hb.mono B2.out.size))
  have SZ3a : Hid (V2.heap.size ≤ w3.heap.size) := Lib.hid hb.size
  have J5_3 := Lib.hid ho
  have J4_3 := Lib.hid (J4_2.out.later hb)
  clear J4_2
  clear hb ho T2 Z2 O2 B2
  have x5 := O3a.out.cell (j := 5) rfl
  have f5 := O3a.out.fr (o := 5)
  have O4 := Lib.hid (O3a.out.set 5 (.slice p5 x.E.length s5))
  have T4 := Lib.hid (T3a.out.other (c := w.heap.size + 1 + 1) (o := 5) (by omega) (.slice p5 x.E.length s5))
  have Z4 := Lib.hid (Z3a.out.other (c := w.heap.size + 1 + 1) (o := 5) (by omega) (.slice p5 x.E.length s5))
  have B4 : Hid (Below w.heap.size w (w3.setCell ⟨w.heap.size + 1 + 1, 5, none⟩ (.slice p5 x.E.length s5))) := Lib.hid (B3a.out.setCell (by show w.heap.size ≤ w.heap.size + 1 + 1; omega) _)
  have J4_4 := Lib.hid (J4_3.out.kept (w' := w3.setCell ⟨w.heap.size + 1 + 1, 5, none⟩ (.slice p5 x.E.length s5)) (fun g h1 h2 => Below.heap_setCell _ _ _ _ (by show g ≠ w.heap.size + 1 + 1; have := SZ0.out; have := SZ1a.out; have := SZ2.out; have := SZ3a.out; omega)))
  clear J4_3
  have J5_4 := Lib.hid (J5_3.out.kept (w' := w3.setCell ⟨w.heap.size + 1 + 1, 5, none⟩ (.slice p5 x.E.length s5)) (fun g h1 h2 => Below.heap_setCell _ _ _ _ (by show g ≠ w.heap.size + 1 + 1; have := SZ0.out; have := SZ1a.out; have := SZ2.out; have := SZ3a.out; omega)))
  clear J5_3
  clear B3a T3a Z3a O3a
  have y0 := O4.out.cell (j := 0) rfl
  have y1 := O4.out.cell (j := 1) rfl
  have y2 := O4.out.cell (j := 2) rfl
  have y3 := O4.out.cell (j := 3) rfl
  have y4 := O4.out.cell (j := 4) rfl
  have y5 := O4.out.cell (j := 5) rfl
  have z0 := Z4.out.cell (j := 0) rfl
  have g0 := Z4.out.fr (o := 0)
  have z1 := Z4.out.cell (j := 1) rfl
  have g1 := Z4.out.fr (o := 1)
  have z2 := Z4.out.cell (j := 2) rfl
  have g2 := Z4.out.fr (o := 2)
  have z3 := Z4.out.cell (j := 3) rfl
  have g3 := Z4.out.fr (o := 3)
  have z4 := Z4.out.cell (j := 4) rfl
  have g4 := Z4.out.fr (o := 4)
  have z5 := Z4.out.cell (j := 5) rfl
  have g5 := Z4.out.fr (o := 5)
  have qf := ((((((Z4.out.set 0 (.int .i64 x.kd)).set 1 (.int .i64 x.sz)).set 2 (.int .i64 x.gn)).set 3 (.string x.key)).set 4 (.slice p4 x.R.length s4)).set 5 (.slice p5 x.E.length s5))
  have q0 := qf.cell (j := 0) rfl
  have q1 := qf.cell (j := 1) rfl
  have q2 := qf.cell (j := 2) rfl
  have q3 := qf.cell (j := 3) rfl
  have q4 := qf.cell (j := 4) rfl
  have q5 := qf.cell (j := 5) rfl
  clear qf
  have BE := Lib.hid ((((((B4.out.setCell (p := ⟨w.heap.size + 1, 0, none⟩) (by show w.heap.size ≤ w.heap.size + 1; omega) (.int .i64 x.kd)).setCell (p := ⟨w.heap.size + 1, 1, none⟩) (by show w.heap.size ≤ w.heap.size + 1; omega) (.int .i64 x.sz)).setCell (p := ⟨w.heap.size + 1, 2, none⟩) (by show w.heap.size ≤ w.heap.size + 1; omega) (.int .i64 x.gn)).setCell (p := ⟨w.heap.size + 1, 3, none⟩) (by show w.heap.size ≤ w.heap.size + 1; omega) (.string x.key)).setCell (p := ⟨w.heap.size + 1, 4, none⟩) (by show w.heap.size ≤ w.heap.size + 1; omega) (.slice p4 x.R.length s4)).setCell (p := ⟨w.heap.size + 1, 5, none⟩) (by show w.heap.size ≤ w.heap.size + 1; omega) (.slice p5 x.E.length s5))
  have JE4 := Lib.hid (J4_4.out.kept (w' := ((w3.setCell ⟨w.heap.size + 1 + 1, 5, none⟩ (.slice p5 x.E.length s5))).setCells (w.heap.size + 1) 0 [.int .i64 x.kd, .int .i64 x.sz, .int .i64 x.gn, .string x.key, .slice p4 x.R.length s4, .slice p5 x.E.length s5]) (fun g h1 h2 => heap_setCells_ne (by have := SZ0.out; have := SZ1a.out; have := SZ2.out; have := SZ3a.out; omega) _ _ _))
  have JE5 := Lib.hid (J5_4.out.kept (w' := ((w3.setCell ⟨w.heap.size + 1 + 1, 5, none⟩ (.slice p5 x.E.length s5))).setCells (w.heap.size + 1) 0 [.int .i64 x.kd, .int .i64 x.sz, .int .i64 x.gn, .string x.key, .slice p4 x.R.length s4, .slice p5 x.E.length s5]) (fun g h1 h2 => heap_setCells_ne (by have := SZ0.out; have := SZ1a.out; have := SZ2.out; have := SZ3a.out; omega) _ _ _))
  have SE : Hid (w3.heap.size ≤ (((w3.setCell ⟨w.heap.size + 1 + 1, 5, none⟩ (.slice p5 x.E.length s5))).setCells (w.heap.size + 1) 0 [.int .i64 x.kd, .int .i64 x.sz, .int .i64 x.gn, .string x.key, .slice p4 x.R.length s4, .slice p5 x.E.length s5]).heap.size) := Lib.hid (by rw [size_setCells]; simp [World.setCell])
  go_wp2
  refine bodyPost_ret (v := .agg #[.int .i64 x.kd, .int .i64 x.sz, .int .i64 x.gn, .string x.key, .slice p4 x.R.length s4, .slice p5 x.E.length s5]) ?_ rfl ⟨_, rfl, ((((((Objs.cons (lo := V0.heap.size) JE4.out (Objs.cons (lo := V2.heap.size) JE5.out (Objs.nil _ w3.heap.size (((w3.setCell ⟨w.heap.size + 1 + 1, 5, none⟩ (.slice p5 x.E.length s5))).setCells (w.heap.size + 1) 0 [.int .i64 x.kd, .int .i64 x.sz, .int .i64 x.gn, .string x.key, .slice p4 x.R.length s4, .slice p5 x.E.length s5]).heap.size) (by have := SZ0.out; have := SZ1a.out; have := SZ2.out; have := SZ3a.out; omega) (by have := SZ0.out; have := SZ1a.out; have := SZ2.out; have := SZ3a.out; omega) (by have := SZ0.out; have := SZ1a.out; have := SZ2.out; have := SZ3a.out; have := SE.out; omega)) (by have := SZ0.out; have := SZ1a.out; have := SZ2.out; have := SZ3a.out; omega) (by have := SZ0.out; have := SZ1a.out; have := SZ2.out; have := SZ3a.out; omega) (by have := SZ0.out; have := SZ1a.out; have := SZ2.out; have := SZ3a.out; have := SE.out; omega)).val _).val _).val _).val _)).mono (by have := SZ0.out; have := SZ1a.out; have := SZ2.out; have := SZ3a.out; omega) (Nat.le_refl _), BE.out⟩
  simp [results, Tryd.results115, go_sem, q0, q1, q2, q3, q4, q5]

end Go.Proofs.YtmkchilhnmkhkaaDoor
namespace Go.Proofs.YtmkchilhnmkhkaaDoor
open Go.RowKit Go.Proofs.YtmkchilhnmkhkaaDoor.Parts Go.Proofs.YtmkchilhnmkhkaaDoor.Hexa

set_option maxRecDepth 100000 in
set_option maxHeartbeats 1000000 in
theorem toInoS_any (v : Value) (L : List InoR) (w : World) (hs : (celRow cIno L).Rd w v) (hz : (celRow cIno L).sz ≤ 1048576) :
    Calls Tryd.prog 64 #[v] w (ToPost (celRow cIno L) w) := by
  obtain ⟨i0, hi, hz0, hz1, hz2⟩ := info_parts infoInoD
  obtain ⟨a, n, c, rfl, hn⟩ := row_form hs
  have HS := Lib.hid hs
  have hz' : n + szL (celsE cIno L) ≤ 1048576 := by rw [← hn]; exact hz
  have hn1 : n ≤ 1048576 := by omega
  have HZ : Hid (szL (celsE cIno L) ≤ 1048576) := Lib.hid (by omega)
  have HN := Lib.hid hn
  clear hs hz hz' hn
  go_enter Tryd.func64, Tryd.ntmps64
  go_wp2_with (at_make; refine wpList_make_full _ rfl _ _ 40 rfl w.heap.size 54 i0 _ 6 Tryd.underlying40 hi hz0 hz1 .i64 .i64 _ _ n rfl rfl rfl rfl (by rw [hz2]; omega) (by unfold maxLen; omega) (Nat.le_refl _) ?_; intro w0 hown0 hgrow0)
  have hg0 : Below w.heap.size w w0 := (Below.refl _ _).grown hgrow0 (Nat.le_refl _) (fun k h => by cases h)
  have HO0 : Hid (Part2 cIno L w0 w.heap.size n 0) := Lib.hid (Part2.start hown0)
  clear hown0 hgrow0
  go_loopw [4] (fun iv wr => ∃ (k : Nat), k ≤ n ∧ iv = .int .i64 k ∧ Hid (Part2 cIno L wr w.heap.size n k) ∧ Below w.heap.size w wr)
    (fun iv _ => n - (intOf iv).toNat)
  case atStart => exact ⟨0, Nat.zero_le _, rfl, HO0, hg0⟩
  case round =>
    clear HO0 hg0
    obtain ⟨k, hk, rfl, HW, hbel⟩ := hrel
    by_cases hlt : k < n
    · have HX : Hid (szL (cIno.cels (L.getD k default)) ≤ 1048576) := Lib.hid (Nat.le_trans (szL_at cIno L k (by rw [HN.out]; exact hlt)) HZ.out)
      obtain ⟨g, off, a4, c4, a5, c5, rfl, hg, d0, d1, d2, d3, d4, d5, r4, r5⟩ := cIno_at (Cel.Rd.later hbel _ _ HS.out) k hlt
      have HV : Hid (∀ (w1 : World) (hi : Nat) (vs : List Value), Below wr.heap.size wr w1 → Objs w1 wr.heap.size hi (cIno.cels (L.getD k default)) vs → Part2 cIno L (w1.setCells w.heap.size (k * 6) vs) w.heap.size n (k + 1)) :=
        Lib.hid (fun w1 hi vs hb ho => HW.out.next HN.out hlt hb ho)
      obtain ⟨x, hx⟩ : ∃ x, L.getD k default = x := ⟨_, rfl⟩
      rw [hx] at d0 d1 d2 d3 d4 d5 r4 r5 HX HV
      clear hx
      go_wp2_with fail
      refine (toIno_st x a4 c4 a5 c5 _ r4 r5 HX.out).mono ?_
      rintro e w1 ⟨vs, rfl, ho, hb1⟩
      have hbx : Below w.heap.size w w1 := hbel.trans (hb1.mono hbel.size)
      have O1 := Lib.hid (HV.out w1 _ vs hb1 ho)
      obtain ⟨b4, s4, b5, s5, rfl, _, _⟩ := cIno_form ho.rd
      obtain ⟨xs, G, hrow, _, _, _⟩ := (HW.out.later hb1).ex
      have HW1 := Lib.hid hrow
      clear hrow
      obtain ⟨v0, e0⟩ := ownE_cell HW1.out (j := k * 6) (by show k * 6 < n * 6; omega)
      obtain ⟨v1, e1⟩ := ownE_cell HW1.out (j := k * 6 + 1) (by show k * 6 + 1 < n * 6; omega)
      obtain ⟨v2, e2⟩ := ownE_cell HW1.out (j := k * 6 + 2) (by show k * 6 + 2 < n * 6; omega)
      obtain ⟨v3, e3⟩ := ownE_cell HW1.out (j := k * 6 + 3) (by show k * 6 + 3 < n * 6; omega)
      obtain ⟨v4, e4⟩ := ownE_cell HW1.out (j := k * 6 + 4) (by show k * 6 + 4 < n * 6; omega)
      obtain ⟨v5, e5⟩ := ownE_cell HW1.out (j := k * 6 + 5) (by show k * 6 + 5 < n * 6; omega)
      have z0 := HW1.out.frozenAt (k * 6)
      have z1 := HW1.out.frozenAt (k * 6 + 1)
      have z2 := HW1.out.frozenAt (k * 6 + 2)
      have z3 := HW1.out.frozenAt (k * 6 + 3)
      have z4 := HW1.out.frozenAt (k * 6 + 4)
      have z5 := HW1.out.frozenAt (k * 6 + 5)
      have hb2 := Lib.hid (below_sets (Nat.le_refl w.heap.size) [.int .i64 x.kd, .int .i64 x.sz, .int .i64 x.gn, .string x.key, .slice b4 x.R.length s4, .slice b5 x.E.length s5] (k * 6) hbx)
      clear d0 d1 d2 d3 d4 d5 r4 r5 hb1 hbx ho HW
      go_wp2
      go_roundw
      case rel => exact ⟨k + 1, by omega, by go_num, O1, hb2.out⟩
      case measure => (simp [intOf]; try omega)
    · obtain rfl : k = n := by omega
      have HO := Lib.hid (HW.out.done HN.out)
      go_wp2
      go_ret
      exact ⟨_, rfl, HO.out, hbel⟩

end Go.Proofs.YtmkchilhnmkhkaaDoor
namespace Go.Proofs.YtmkchilhnmkhkaaDoor
open Go.RowKit Go.Proofs.YtmkchilhnmkhkaaDoor.Parts Go.Proofs.YtmkchilhnmkhkaaDoor.Hexa

set_option maxRecDepth 100000 in
set_option maxHeartbeats 1000000 in
theorem toPart_st (x : PartR) (a1 : Option Addr) (c1 : Nat) (a2 : Option Addr) (c2 : Nat) (w : World) (h1 : (celRow cInt x.st).Rd w (.slice a1 x.st.length c1)) (h2 : (celRow cIno x.ino).Rd w (.slice a2 x.ino.length c2)) (hz : szL (cPart.cels x) ≤ 1048576) :
    Calls Tryd.prog 29 #[.agg #[.int .i64 x.ser, .slice a1 x.st.length c1, .slice a2 x.ino.length c2]] w (ToPostS (cPart.cels x) w) := by
  rw [cPart_sz] at hz
  have HS1 := Lib.hid h1
  have HS2 := Lib.hid h2
  clear h1 h2
  have B0 := Lib.hid (below_bk w (.cells #[.int .i64 x.ser, .slice a1 x.st.length c1, .slice a2 x.ino.length c2] 37))
  have W1 : Hid (Bk (w.alloc (.cells #[.int .i64 x.ser, .slice a1 x.st.length c1, .slice a2 x.ino.length c2] 37)) w.heap.size #[.int .i64 x.ser, .slice a1 x.st.length c1, .slice a2 x.ino.length c2] 37) := Lib.hid (Bk.alloc w _ _)
  go_enter Tryd.func29, Tryd.ntmps29
  go_wp2_with fail
  have hb1 := below_bk (w.alloc (.cells #[.int .i64 x.ser, .slice a1 x.st.length c1, .slice a2 x.ino.length c2] 37)) (.cells #[.int .i64 0, .slice none 0 0, .slice none 0 0] 42)
  have hb2 := below_bk ((w.alloc (.cells #[.int .i64 x.ser, .slice a1 x.st.length c1, .slice a2 x.ino.length c2] 37)).alloc (.cells #[.int .i64 0, .slice none 0 0, .slice none 0 0] 42)) (.cells #[.int .i64 x.ser, .slice none 0 0, .slice none 0 0] 42)
  have T0 := Lib.hid ((W1.out.later hb1).later hb2)
  have Z0 : Hid (Bk (((w.alloc (.cells #[.int .i64 x.ser, .slice a1 x.st.length c1, .slice a2 x.ino.length c2] 37)).alloc (.cells #[.int .i64 0, .slice none 0 0, .slice none 0 0] 42)).alloc (.cells #[.int .i64 x.ser, .slice none 0 0, .slice none 0 0] 42)) (w.heap.size + 1) #[.int .i64 0, .slice none 0 0, .slice none 0 0] 42) := Lib.hid (by
    have h := (Bk.alloc (w.alloc (.cells #[.int .i64 x.ser, .slice a1 x.st.length c1, .slice a2 x.ino.length c2] 37)) #[.int .i64 0, .slice none 0 0, .slice none 0 0] 42).later hb2
    simpa using h)
  have O0 : Hid (Bk (((w.alloc (.cells #[.int .i64 x.ser, .slice a1 x.st.length c1, .slice a2 x.ino.length c2] 37)).alloc (.cells #[.int .i64 0, .slice none 0 0, .slice none 0 0] 42)).alloc (.cells #[.int .i64 x.ser, .slice none 0 0, .slice none 0 0] 42)) (w.heap.size + 1 + 1) #[.int .i64 x.ser, .slice none 0 0, .slice none 0 0] 42) := Lib.hid (by
    have h := Bk.alloc ((w.alloc (.cells #[.int .i64 x.ser, .slice a1 x.st.length c1, .slice a2 x.ino.length c2] 37)).alloc (.cells #[.int .i64 0, .slice none 0 0, .slice none 0 0] 42)) #[.int .i64 x.ser, .slice none 0 0, .slice none 0 0] 42
    simpa using h)
  have B3 : Hid (Below w.heap.size w (((w.alloc (.cells #[.int .i64 x.ser, .slice a1 x.st.length c1, .slice a2 x.ino.length c2] 37)).alloc (.cells #[.int .i64 0, .slice none 0 0, .slice none 0 0] 42)).alloc (.cells #[.int .i64 x.ser, .slice none 0 0, .slice none 0 0] 42))) := Lib.hid ((B0.out.alloc B0.out.size _).alloc (by simp; omega) _)
  have N0 : Hid ((((w.alloc (.cells #[.int .i64 x.ser, .slice a1 x.st.length c1, .slice a2 x.ino.length c2] 37)).alloc (.cells #[.int .i64 0, .slice none 0 0, .slice none 0 0] 42)).alloc (.cells #[.int .i64 x.ser, .slice none 0 0, .slice none 0 0] 42)).heap.size = w.heap.size + 3) := Lib.hid (by simp)
  obtain ⟨V0, hV0⟩ : ∃ y, y = (((w.alloc (.cells #[.int .i64 x.ser, .slice a1 x.st.length c1, .slice a2 x.ino.length c2] 37)).alloc (.cells #[.int .i64 0, .slice none 0 0, .slice none 0 0] 42)).alloc (.cells #[.int .i64 x.ser, .slice none 0 0, .slice none 0 0] 42)) := ⟨_, rfl⟩
  rw [← hV0] at T0 Z0 O0 B3 N0 ⊢
  clear hV0 hb1 hb2 B0 W1
  have SZ0 : Hid (w.heap.size + 3 ≤ V0.heap.size) := Lib.hid (by have := N0.out; omega)
  clear N0
  refine (toIntS_any _ x.st _ (Cel.Rd.later B3.out _ _ HS1.out) (by omega)).mono ?_
  rintro e w1 ⟨u1, rfl, ho, hb⟩
  obtain ⟨p1, m1, s1, rfl, hm⟩ := row_form ho.rd
  subst hm
  have T1a := Lib.hid (T0.out.later hb)
  have Z1a := Lib.hid (Z0.out.later hb)
  have O1a := Lib.hid (O0.out.later hb)
  have B1a : Hid (Below w.heap.size w w1) := Lib.hid (B3.out.trans (hb.mono B3.out.size))
  have SZ1a : Hid (V0.heap.size ≤ w1.heap.size) := Lib.hid hb.size
  have J1_1 := Lib.hid ho
  clear hb ho T0 Z0 O0 B3
  have x1 := O1a.out.cell (j := 1) rfl
  have f1 := O1a.out.fr (o := 1)
  have O2 := Lib.hid (O1a.out.set 1 (.slice p1 x.st.length s1))
  have T2 := Lib.hid (T1a.out.other (c := w.heap.size + 1 + 1) (o := 1) (by omega) (.slice p1 x.st.length s1))
  have Z2 := Lib.hid (Z1a.out.other (c := w.heap.size + 1 + 1) (o := 1) (by omega) (.slice p1 x.st.length s1))
  have B2 : Hid (Below w.heap.size w (w1.setCell ⟨w.heap.size + 1 + 1, 1, none⟩ (.slice p1 x.st.length s1))) := Lib.hid (B1a.out.setCell (by show w.heap.size ≤ w.heap.size + 1 + 1; omega) _)
  have J1_2 := Lib.hid (J1_1.out.kept (w' := w1.setCell ⟨w.heap.size + 1 + 1, 1, none⟩ (.slice p1 x.st.length s1)) (fun g h1 h2 => Below.heap_setCell _ _ _ _ (by show g ≠ w.heap.size + 1 + 1; have := SZ0.out; have := SZ1a.out; omega)))
  clear J1_1
  have t2_2 := T2.out.cell (j := 2) rfl
  clear B1a T1a Z1a O1a
  go_wp2_with fail
  obtain ⟨V2, hV⟩ : ∃ y, y = (w1.setCell ⟨w.heap.size + 1 + 1, 1, none⟩ (.slice p1 x.st.length s1)) := ⟨_, rfl⟩
  rw [← hV] at O2 T2 Z2 B2 J1_2 ⊢
  have SZ2 : Hid (w1.heap.size ≤ V2.heap.size) := Lib.hid (by rw [hV]; simp [World.setCell])
  clear hV x1 f1 t2_2
  refine (toInoS_any _ x.ino _ (Cel.Rd.later B2.out _ _ HS2.out) (by omega)).mono ?_
  rintro e w3 ⟨u2, rfl, ho, hb⟩
  obtain ⟨p2, m2, s2, rfl, hm⟩ := row_form ho.rd
  subst hm
  have T3a := Lib.hid (T2.out.later hb)
  have Z3a := Lib.hid (Z2.out.later hb)
  have O3a := Lib.hid (O2.out.later hb)
  have B3a : Hid (Below w.heap.size w w3) := Lib.hid (B2.out.trans (hb.mono B2.out.size))
  have SZ3a : Hid (V2.heap.size ≤ w3.heap.size) := Lib.hid hb.size
  have J2_3 := Lib.hid ho
  have J1_3 := Lib.hid (J1_2.out.later hb)
  clear J1_2
  clear hb ho T2 Z2 O2 B2
  have x2 := O3a.out.cell (j := 2) rfl
  have f2 := O3a.out.fr (o := 2)
  have O4 := Lib.hid (O3a.out.set 2 (.slice p2 x.ino.length s2))
  have T4 := Lib.hid (T3a.out.other (c := w.heap.size + 1 + 1) (o := 2) (by omega) (.slice p2 x.ino.length s2))
  have Z4 := Lib.hid (Z3a.out.other (c := w.heap.size + 1 + 1) (o := 2) (by omega) (.slice p2 x.ino.length s2))
  have B4 : Hid (Below w.heap.size w (w3.setCell ⟨w.heap.size + 1 + 1, 2, none⟩ (.slice p2 x.ino.length s2))) := Lib.hid (B3a.out.setCell (by show w.heap.size ≤ w.heap.size + 1 + 1; omega) _)
  have J1_4 := Lib.hid (J1_3.out.kept (w' := w3.setCell ⟨w.heap.size + 1 + 1, 2, none⟩ (.slice p2 x.ino.length s2)) (fun g h1 h2 => Below.heap_setCell _ _ _ _ (by show g ≠ w.heap.size + 1 + 1; have := SZ0.out; have := SZ1a.out; have := SZ2.out; have := SZ3a.out; omega)))
  clear J1_3
  have J2_4 := Lib.hid (J2_3.out.kept (w' := w3.setCell ⟨w.heap.size + 1 + 1, 2, none⟩ (.slice p2 x.ino.length s2)) (fun g h1 h2 => Below.heap_setCell _ _ _ _ (by show g ≠ w.heap.size + 1 + 1; have := SZ0.out; have := SZ1a.out; have := SZ2.out; have := SZ3a.out; omega)))
  clear J2_3
  clear B3a T3a Z3a O3a
  have y0 := O4.out.cell (j := 0) rfl
  have y1 := O4.out.cell (j := 1) rfl
  have y2 := O4.out.cell (j := 2) rfl
  have z0 := Z4.out.cell (j := 0) rfl
  have g0 := Z4.out.fr (o := 0)
  have z1 := Z4.out.cell (j := 1) rfl
  have g1 := Z4.out.fr (o := 1)
  have z2 := Z4.out.cell (j := 2) rfl
  have g2 := Z4.out.fr (o := 2)
  have qf := (((Z4.out.set 0 (.int .i64 x.ser)).set 1 (.slice p1 x.st.length s1)).set 2 (.slice p2 x.ino.length s2))
  have q0 := qf.cell (j := 0) rfl
  have q1 := qf.cell (j := 1) rfl
  have q2 := qf.cell (j := 2) rfl
  clear qf
  have BE := Lib.hid (((B4.out.setCell (p := ⟨w.heap.size + 1, 0, none⟩) (by show w.heap.size ≤ w.heap.size + 1; omega) (.int .i64 x.ser)).setCell (p := ⟨w.heap.size + 1, 1, none⟩) (by show w.heap.size ≤ w.heap.size + 1; omega) (.slice p1 x.st.length s1)).setCell (p := ⟨w.heap.size + 1, 2, none⟩) (by show w.heap.size ≤ w.heap.size + 1; omega) (.slice p2 x.ino.length s2))
  have JE1 := Lib.hid (J1_4.out.kept (w' := ((w3.setCell ⟨w.heap.size + 1 + 1, 2, none⟩ (.slice p2 x.ino.length s2))).setCells (w.heap.size + 1) 0 [.int .i64 x.ser, .slice p1 x.st.length s1, .slice p2 x.ino.length s2]) (fun g h1 h2 => heap_setCells_ne (by have := SZ0.out; have := SZ1a.out; have := SZ2.out; have := SZ3a.out; omega) _ _ _))
  have JE2 := Lib.hid (J2_4.out.kept (w' := ((w3.setCell ⟨w.heap.size + 1 + 1, 2, none⟩ (.slice p2 x.ino.length s2))).setCells (w.heap.size + 1) 0 [.int .i64 x.ser, .slice p1 x.st.length s1, .slice p2 x.ino.length s2]) (fun g h1 h2 => heap_setCells_ne (by have := SZ0.out; have := SZ1a.out; have := SZ2.out; have := SZ3a.out; omega) _ _ _))
  have SE : Hid (w3.heap.size ≤ (((w3.setCell ⟨w.heap.size + 1 + 1, 2, none⟩ (.slice p2 x.ino.length s2))).setCells (w.heap.size + 1) 0 [.int .i64 x.ser, .slice p1 x.st.length s1, .slice p2 x.ino.length s2]).heap.size) := Lib.hid (by rw [size_setCells]; simp [World.setCell])
  go_wp2
  refine bodyPost_ret (v := .agg #[.int .i64 x.ser, .slice p1 x.st.length s1, .slice p2 x.ino.length s2]) ?_ rfl ⟨_, rfl, (((Objs.cons (lo := V0.heap.size) JE1.out (Objs.cons (lo := V2.heap.size) JE2.out (Objs.nil _ w3.heap.size (((w3.setCell ⟨w.heap.size + 1 + 1, 2, none⟩ (.slice p2 x.ino.length s2))).setCells (w.heap.size + 1) 0 [.int .i64 x.ser, .slice p1 x.st.length s1, .slice p2 x.ino.length s2]).heap.size) (by have := SZ0.out; have := SZ1a.out; have := SZ2.out; have := SZ3a.out; omega) (by have := SZ0.out; have := SZ1a.out; have := SZ2.out; have := SZ3a.out; omega) (by have := SZ0.out; have := SZ1a.out; have := SZ2.out; have := SZ3a.out; have := SE.out; omega)) (by have := SZ0.out; have := SZ1a.out; have := SZ2.out; have := SZ3a.out; omega) (by have := SZ0.out; have := SZ1a.out; have := SZ2.out; have := SZ3a.out; omega) (by have := SZ0.out; have := SZ1a.out; have := SZ2.out; have := SZ3a.out; have := SE.out; omega)).val _)).mono (by have := SZ0.out; have := SZ1a.out; have := SZ2.out; have := SZ3a.out; omega) (Nat.le_refl _), BE.out⟩
  simp [results, Tryd.results29, go_sem, q0, q1, q2]

end Go.Proofs.YtmkchilhnmkhkaaDoor
namespace Go.Proofs.YtmkchilhnmkhkaaDoor
open Go.RowKit

theorem below_drewsN {B : Nat} {a w : World} (h : Below B a w) (m : Nat) : Below B a (w.drewN m) := ⟨h.os, h.tape, h.output, h.size, h.block⟩
end Go.Proofs.YtmkchilhnmkhkaaDoor
namespace Go.Proofs.YtmkchilhnmkhkaaDoor
open Go.RowKit Go.Proofs.YtmkchilhnmkhkaaDoor.Parts Go.Proofs.YtmkchilhnmkhkaaDoor.Hexa

set_option maxRecDepth 100000 in
set_option maxHeartbeats 1000000 in
theorem eqIntS_any (v v2 : Value) (L : List Int) (w : World) (s1 : (celRow cInt L).Rd w v) (s2 : (celRow cInt L).Rd w v2) (hz : (celRow cInt L).sz ≤ 100000000) :
    Calls Tryd.prog 67 #[v, v2] w fun e w' => e = .returned (.bool true) ∧ Below w.heap.size w w' := by
  obtain ⟨a, n, c, rfl, hn⟩ := row_form s1
  obtain ⟨a', n', c', rfl, hn'⟩ := row_form s2
  obtain rfl : n' = n := by rw [← hn, ← hn']
  rw [szInts_eq, hn] at hz
  have R1 := Lib.hid s1
  have R2 := Lib.hid s2
  clear s1 s2 hn hn'
  go_enter Tryd.func67, Tryd.ntmps67
  go_wp2
  go_loopw [5] (fun iv wr => ∃ k m : Nat, k ≤ n' ∧ iv = .int .i64 k ∧ wr = w.drewN m) (fun iv _ => n' - (intOf iv).toNat)
  case atStart => exact ⟨0, 0, Nat.zero_le _, rfl, rfl⟩
  case round =>
    obtain ⟨k, m, hk, rfl, rfl⟩ := hrel
    by_cases hlt : k < n'
    · obtain ⟨g1, o1, rfl, h1, d1⟩ := cInt_at R1.out k hlt
      obtain ⟨g2, o2, rfl, h2, d2⟩ := cInt_at R2.out k hlt
      obtain ⟨x, hx⟩ : ∃ x, L.getD k default = x := ⟨_, rfl⟩
      rw [hx] at d1 d2
      clear hx h1 h2
      go_wp2
      go_quiet (fail)
      go_wp2
      go_roundw
      case rel => exact ⟨k + 1, _, by omega, by go_num, rfl⟩
      case measure => (simp [intOf]; try omega)
    · obtain rfl : k = n' := by omega
      go_wp2
      go_ret
      exact ⟨rfl, below_drewsN (Below.refl _ _) _⟩
end Go.Proofs.YtmkchilhnmkhkaaDoor
namespace Go.Proofs.YtmkchilhnmkhkaaDoor
open Go.RowKit Go.Proofs.YtmkchilhnmkhkaaDoor.Parts Go.Proofs.YtmkchilhnmkhkaaDoor.Hexa

set_option maxRecDepth 100000 in
set_option maxHeartbeats 1000000 in
theorem eqRec_st (x : RecR) (w : World) (_ : szL (cRec.cels x) ≤ 100000000) :
    Calls Tryd.prog 132 #[.agg #[.int .i64 x.f0, .int .i64 x.f1, .string x.f2], .agg #[.int .i64 x.f0, .int .i64 x.f1, .string x.f2]] w fun e w' => e = .returned (.bool true) ∧ Below w.heap.size w w' := by
  go_enter Tryd.func132, Tryd.ntmps132
  go_wp2
  go_ret
  exact ⟨rfl, ((Below.refl _ _).alloc (Nat.le_refl _) _).alloc (by simp) _⟩

end Go.Proofs.YtmkchilhnmkhkaaDoor
namespace Go.Proofs.YtmkchilhnmkhkaaDoor
open Go.RowKit Go.Proofs.YtmkchilhnmkhkaaDoor.Parts Go.Proofs.YtmkchilhnmkhkaaDoor.Hexa

set_option maxRecDepth 100000 in
set_option maxHeartbeats 1000000 in
theorem eqRecS_any (v v2 : Value) (L : List RecR) (w : World) (s1 : (celRow cRec L).Rd w v) (s2 : (celRow cRec L).Rd w v2) (hz : (celRow cRec L).sz ≤ 100000000) :
    Calls Tryd.prog 82 #[v, v2] w fun e w' => e = .returned (.bool true) ∧ Below w.heap.size w w' := by
  obtain ⟨a, n, c, rfl, hn⟩ := row_form s1
  obtain ⟨a', n', c', rfl, hn'⟩ := row_form s2
  obtain rfl : n' = n := by rw [← hn, ← hn']
  have R1 := Lib.hid s1
  have R2 := Lib.hid s2
  have hz' : n' + szL (celsE cRec L) ≤ 100000000 := by rw [← hn]; exact hz
  have hn1 : n' ≤ 100000000 := by omega
  have HZ : Hid (szL (celsE cRec L) ≤ 100000000) := Lib.hid (by omega)
  have HN := Lib.hid hn
  clear s1 s2 hz hz' hn hn'
  go_enter Tryd.func82, Tryd.ntmps82
  go_wp2
  go_loopw [5] (fun iv wr => ∃ k : Nat, k ≤ n' ∧ iv = .int .i64 k ∧ Below w.heap.size w wr) (fun iv _ => n' - (intOf iv).toNat)
  case atStart => exact ⟨0, Nat.zero_le _, rfl, Below.refl _ _⟩
  case round =>
    obtain ⟨k, hk, rfl, hbel⟩ := hrel
    by_cases hlt : k < n'
    · have HX : Hid (szL (cRec.cels (L.getD k default)) ≤ 100000000) := Lib.hid (Nat.le_trans (szL_at cRec L k (by rw [HN.out]; exact hlt)) HZ.out)
      obtain ⟨g, off, rfl, hg, d0, d1, d2⟩ := cRec_at (Cel.Rd.later hbel _ _ R1.out) k hlt
      obtain ⟨g2, off2, rfl, hg2, m0, m1, m2⟩ := cRec_at (Cel.Rd.later hbel _ _ R2.out) k hlt
      obtain ⟨x, hx⟩ : ∃ x, L.getD k default = x := ⟨_, rfl⟩
      rw [hx] at d0 d1 d2 m0 m1 m2   HX
      clear hx

      go_wp2
      go_region_with (go_at_call 132; refine (eqRec_st x _ HX.out).mono ?_; rintro e w1 ⟨rfl, hb1⟩)
      all_goals
        have hb2 : Below w.heap.size w w1 := hbel.drew.trans (hb1.mono hbel.size)
        clear d0 d1 d2 m0 m1 m2   hb1
        go_wp2
        go_roundw
        case rel => exact ⟨k + 1, by omega, by go_num, hb2⟩
        case measure => (simp [intOf]; try omega)
    · obtain rfl : k = n' := by omega
      go_wp2
      go_ret
      exact ⟨rfl, hbel⟩

end Go.Proofs.YtmkchilhnmkhkaaDoor
namespace Go.Proofs.YtmkchilhnmkhkaaDoor
open Go.RowKit Go.Proofs.YtmkchilhnmkhkaaDoor.Parts Go.Proofs.YtmkchilhnmkhkaaDoor.Hexa

set_option maxRecDepth 100000 in
set_option maxHeartbeats 1000000 in
theorem eqEntry_st (x : EntryR) (w : World) (_ : szL (cEntry.cels x) ≤ 100000000) :
    Calls Tryd.prog 34 #[.agg #[.int .i64 x.f0, .string x.f1], .agg #[.int .i64 x.f0, .string x.f1]] w fun e w' => e = .returned (.bool true) ∧ Below w.heap.size w w' := by
  go_enter Tryd.func34, Tryd.ntmps34
  go_wp2
  go_ret
  exact ⟨rfl, ((Below.refl _ _).alloc (Nat.le_refl _) _).alloc (by simp) _⟩

end Go.Proofs.YtmkchilhnmkhkaaDoor
namespace Go.Proofs.YtmkchilhnmkhkaaDoor
open Go.RowKit Go.Proofs.YtmkchilhnmkhkaaDoor.Parts Go.Proofs.YtmkchilhnmkhkaaDoor.Hexa

set_option maxRecDepth 100000 in
set_option maxHeartbeats 1000000 in
theorem eqEntryS_any (v v2 : Value) (L : List EntryR) (w : World) (s1 : (celRow cEntry L).Rd w v) (s2 : (celRow cEntry L).Rd w v2) (hz : (celRow cEntry L).sz ≤ 100000000) :
    Calls Tryd.prog 83 #[v, v2] w fun e w' => e = .returned (.bool true) ∧ Below w.heap.size w w' := by
  obtain ⟨a, n, c, rfl, hn⟩ := row_form s1
  obtain ⟨a', n', c', rfl, hn'⟩ := row_form s2
  obtain rfl : n' = n := by rw [← hn, ← hn']
  have R1 := Lib.hid s1
  have R2 := Lib.hid s2
  have hz' : n' + szL (celsE cEntry L) ≤ 100000000 := by rw [← hn]; exact hz
  have hn1 : n' ≤ 100000000 := by omega
  have HZ : Hid (szL (celsE cEntry L) ≤ 100000000) := Lib.hid (by omega)
  have HN := Lib.hid hn
  clear s1 s2 hz hz' hn hn'
  go_enter Tryd.func83, Tryd.ntmps83
  go_wp2
  go_loopw [5] (fun iv wr => ∃ k : Nat, k ≤ n' ∧ iv = .int .i64 k ∧ Below w.heap.size w wr) (fun iv _ => n' - (intOf iv).toNat)
  case atStart => exact ⟨0, Nat.zero_le _, rfl, Below.refl _ _⟩
  case round =>
    obtain ⟨k, hk, rfl, hbel⟩ := hrel
    by_cases hlt : k < n'
    · have HX : Hid (szL (cEntry.cels (L.getD k default)) ≤ 100000000) := Lib.hid (Nat.le_trans (szL_at cEntry L k (by rw [HN.out]; exact hlt)) HZ.out)
      obtain ⟨g, off, rfl, hg, d0, d1⟩ := cEntry_at (Cel.Rd.later hbel _ _ R1.out) k hlt
      obtain ⟨g2, off2, rfl, hg2, m0, m1⟩ := cEntry_at (Cel.Rd.later hbel _ _ R2.out) k hlt
      obtain ⟨x, hx⟩ : ∃ x, L.getD k default = x := ⟨_, rfl⟩
      rw [hx] at d0 d1 m0 m1   HX
      clear hx

      go_wp2
      go_region_with (go_at_call 34; refine (eqEntry_st x _ HX.out).mono ?_; rintro e w1 ⟨rfl, hb1⟩)
      all_goals
        have hb2 : Below w.heap.size w w1 := hbel.drew.trans (hb1.mono hbel.size)
        clear d0 d1 m0 m1   hb1
        go_wp2
        go_roundw
        case rel => exact ⟨k + 1, by omega, by go_num, hb2⟩
        case measure => (simp [intOf]; try omega)
    · obtain rfl : k = n' := by omega
      go_wp2
      go_ret
      exact ⟨rfl, hbel⟩

end Go.Proofs.YtmkchilhnmkhkaaDoor
namespace Go.Proofs.YtmkchilhnmkhkaaDoor
open Go.RowKit Go.Proofs.YtmkchilhnmkhkaaDoor.Parts Go.Proofs.YtmkchilhnmkhkaaDoor.Hexa

set_option maxRecDepth 100000 in
set_option maxHeartbeats 1000000 in
theorem eqIno_st (x : InoR) (a4 : Option Addr) (c4 : Nat) (a5 : Option Addr) (c5 : Nat) (b4 : Option Addr) (s4 : Nat) (b5 : Option Addr) (s5 : Nat) (w : World) (h4 : (celRow cRec x.R).Rd w (.slice a4 x.R.length c4)) (h5 : (celRow cEntry x.E).Rd w (.slice a5 x.E.length c5)) (k4 : (celRow cRec x.R).Rd w (.slice b4 x.R.length s4)) (k5 : (celRow cEntry x.E).Rd w (.slice b5 x.E.length s5)) (hz : szL (cIno.cels x) ≤ 100000000) :
    Calls Tryd.prog 39 #[.agg #[.int .i64 x.kd, .int .i64 x.sz, .int .i64 x.gn, .string x.key, .slice a4 x.R.length c4, .slice a5 x.E.length c5], .agg #[.int .i64 x.kd, .int .i64 x.sz, .int .i64 x.gn, .string x.key, .slice b4 x.R.length s4, .slice b5 x.E.length s5]] w fun e w' => e = .returned (.bool true) ∧ Below w.heap.size w w' := by
  rw [cIno_sz] at hz
  have hb1 := below_bk w (.cells #[.int .i64 x.kd, .int .i64 x.sz, .int .i64 x.gn, .string x.key, .slice a4 x.R.length c4, .slice a5 x.E.length c5] 54)
  have hb2 := below_bk (w.alloc (.cells #[.int .i64 x.kd, .int .i64 x.sz, .int .i64 x.gn, .string x.key, .slice a4 x.R.length c4, .slice a5 x.E.length c5] 54)) (.cells #[.int .i64 x.kd, .int .i64 x.sz, .int .i64 x.gn, .string x.key, .slice b4 x.R.length s4, .slice b5 x.E.length s5] 54)
  have T0 := Lib.hid ((Bk.alloc w #[.int .i64 x.kd, .int .i64 x.sz, .int .i64 x.gn, .string x.key, .slice a4 x.R.length c4, .slice a5 x.E.length c5] 54).later hb2)
  have U0 : Hid (Bk ((w.alloc (.cells #[.int .i64 x.kd, .int .i64 x.sz, .int .i64 x.gn, .string x.key, .slice a4 x.R.length c4, .slice a5 x.E.length c5] 54)).alloc (.cells #[.int .i64 x.kd, .int .i64 x.sz, .int .i64 x.gn, .string x.key, .slice b4 x.R.length s4, .slice b5 x.E.length s5] 54)) (w.heap.size + 1) #[.int .i64 x.kd, .int .i64 x.sz, .int .i64 x.gn, .string x.key, .slice b4 x.R.length s4, .slice b5 x.E.length s5] 54) := Lib.hid (by
    have h := Bk.alloc (w.alloc (.cells #[.int .i64 x.kd, .int .i64 x.sz, .int .i64 x.gn, .string x.key, .slice a4 x.R.length c4, .slice a5 x.E.length c5] 54)) #[.int .i64 x.kd, .int .i64 x.sz, .int .i64 x.gn, .string x.key, .slice b4 x.R.length s4, .slice b5 x.E.length s5] 54
    simpa using h)
  have B0 : Hid (Below w.heap.size w ((w.alloc (.cells #[.int .i64 x.kd, .int .i64 x.sz, .int .i64 x.gn, .string x.key, .slice a4 x.R.length c4, .slice a5 x.E.length c5] 54)).alloc (.cells #[.int .i64 x.kd, .int .i64 x.sz, .int .i64 x.gn, .string x.key, .slice b4 x.R.length s4, .slice b5 x.E.length s5] 54))) := Lib.hid (hb1.trans (hb2.mono hb1.size))
  have HS4 := Lib.hid h4
  have HU4 := Lib.hid k4
  have HS5 := Lib.hid h5
  have HU5 := Lib.hid k5
  clear hb1 hb2 h4 k4 h5 k5
  go_enter Tryd.func39, Tryd.ntmps39
  go_wp2_with fail
  refine (eqRecS_any _ _ x.R _ (Cel.Rd.later B0.out _ _ HS4.out) (Cel.Rd.later B0.out _ _ HU4.out) (by omega)).mono ?_
  rintro e w1 ⟨rfl, hb⟩
  have T1 := Lib.hid (T0.out.later hb)
  have U1 := Lib.hid (U0.out.later hb)
  have B1 : Hid (Below w.heap.size w w1) := Lib.hid (B0.out.trans (hb.mono B0.out.size))
  have x1_5 := T1.out.cell (j := 5) rfl
  have y1_5 := U1.out.cell (j := 5) rfl
  clear hb
  go_wp2_with fail
  refine (eqEntryS_any _ _ x.E _ (Cel.Rd.later B1.out _ _ HS5.out) (Cel.Rd.later B1.out _ _ HU5.out) (by omega)).mono ?_
  rintro e w2 ⟨rfl, hb⟩
  have T2 := Lib.hid (T1.out.later hb)
  have U2 := Lib.hid (U1.out.later hb)
  have B2 : Hid (Below w.heap.size w w2) := Lib.hid (B1.out.trans (hb.mono B1.out.size))
  clear hb
  go_wp2
  go_ret
  exact ⟨rfl, B2.out⟩

end Go.Proofs.YtmkchilhnmkhkaaDoor
namespace Go.Proofs.YtmkchilhnmkhkaaDoor
open Go.RowKit Go.Proofs.YtmkchilhnmkhkaaDoor.Parts Go.Proofs.YtmkchilhnmkhkaaDoor.Hexa

set_option maxRecDepth 100000 in
set_option maxHeartbeats 1000000 in
theorem eqInoS_any (v v2 : Value) (L : List InoR) (w : World) (s1 : (celRow cIno L).Rd w v) (s2 : (celRow cIno L).Rd w v2) (hz : (celRow cIno L).sz ≤ 100000000) :
    Calls Tryd.prog 68 #[v, v2] w fun e w' => e = .returned (.bool true) ∧ Below w.heap.size w w' := by
  obtain ⟨a, n, c, rfl, hn⟩ := row_form s1
  obtain ⟨a', n', c', rfl, hn'⟩ := row_form s2
  obtain rfl : n' = n := by rw [← hn, ← hn']
  have R1 := Lib.hid s1
  have R2 := Lib.hid s2
  have hz' : n' + szL (celsE cIno L) ≤ 100000000 := by rw [← hn]; exact hz
  have hn1 : n' ≤ 100000000 := by omega
  have HZ : Hid (szL (celsE cIno L) ≤ 100000000) := Lib.hid (by omega)
  have HN := Lib.hid hn
  clear s1 s2 hz hz' hn hn'
  go_enter Tryd.func68, Tryd.ntmps68
  go_wp2
  go_loopw [5] (fun iv wr => ∃ k : Nat, k ≤ n' ∧ iv = .int .i64 k ∧ Below w.heap.size w wr) (fun iv _ => n' - (intOf iv).toNat)
  case atStart => exact ⟨0, Nat.zero_le _, rfl, Below.refl _ _⟩
  case round =>
    obtain ⟨k, hk, rfl, hbel⟩ := hrel
    by_cases hlt : k < n'
    · have HX : Hid (szL (cIno.cels (L.getD k default)) ≤ 100000000) := Lib.hid (Nat.le_trans (szL_at cIno L k (by rw [HN.out]; exact hlt)) HZ.out)
      obtain ⟨g, off, a4, c4, a5, c5, rfl, hg, d0, d1, d2, d3, d4, d5, r4, r5⟩ := cIno_at (Cel.Rd.later hbel _ _ R1.out) k hlt
      obtain ⟨g2, off2, a4q, c4q, a5q, c5q, rfl, hg2, m0, m1, m2, m3, m4, m5, u4, u5⟩ := cIno_at (Cel.Rd.later hbel _ _ R2.out) k hlt
      obtain ⟨x, hx⟩ : ∃ x, L.getD k default = x := ⟨_, rfl⟩
      rw [hx] at d0 d1 d2 d3 d4 d5 m0 m1 m2 m3 m4 m5 r4 r5 u4 u5 HX
      clear hx
      have r4 := Cel.Rd.drew r4
      have u4 := Cel.Rd.drew u4
      have r5 := Cel.Rd.drew r5
      have u5 := Cel.Rd.drew u5
      go_wp2
      go_region_with (go_at_call 39; refine (eqIno_st x a4 c4 a5 c5 a4q c4q a5q c5q _ r4 r5 u4 u5 HX.out).mono ?_; rintro e w1 ⟨rfl, hb1⟩)
      all_goals
        have hb2 : Below w.heap.size w w1 := hbel.drew.trans (hb1.mono hbel.size)
        clear d0 d1 d2 d3 d4 d5 m0 m1 m2 m3 m4 m5 r4 r5 u4 u5 hb1
        go_wp2
        go_roundw
        case rel => exact ⟨k + 1, by omega, by go_num, hb2⟩
        case measure => (simp [intOf]; try omega)
    · obtain rfl : k = n' := by omega
      go_wp2
      go_ret
      exact ⟨rfl, hbel⟩

end Go.Proofs.YtmkchilhnmkhkaaDoor
namespace Go.Proofs.YtmkchilhnmkhkaaDoor
open Go.RowKit Go.Proofs.YtmkchilhnmkhkaaDoor.Parts Go.Proofs.YtmkchilhnmkhkaaDoor.Hexa

set_option maxRecDepth 100000 in
set_option maxHeartbeats 1000000 in
theorem eqPart_st (x : PartR) (a1 : Option Addr) (c1 : Nat) (a2 : Option Addr) (c2 : Nat) (b1 : Option Addr) (s1 : Nat) (b2 : Option Addr) (s2 : Nat) (w : World) (h1 : (celRow cInt x.st).Rd w (.slice a1 x.st.length c1)) (h2 : (celRow cIno x.ino).Rd w (.slice a2 x.ino.length c2)) (k1 : (celRow cInt x.st).Rd w (.slice b1 x.st.length s1)) (k2 : (celRow cIno x.ino).Rd w (.slice b2 x.ino.length s2)) (hz : szL (cPart.cels x) ≤ 100000000) :
    Calls Tryd.prog 31 #[.agg #[.int .i64 x.ser, .slice a1 x.st.length c1, .slice a2 x.ino.length c2], .agg #[.int .i64 x.ser, .slice b1 x.st.length s1, .slice b2 x.ino.length s2]] w fun e w' => e = .returned (.bool true) ∧ Below w.heap.size w w' := by
  rw [cPart_sz] at hz
  have hb1 := below_bk w (.cells #[.int .i64 x.ser, .slice a1 x.st.length c1, .slice a2 x.ino.length c2] 42)
  have hb2 := below_bk (w.alloc (.cells #[.int .i64 x.ser, .slice a1 x.st.length c1, .slice a2 x.ino.length c2] 42)) (.cells #[.int .i64 x.ser, .slice b1 x.st.length s1, .slice b2 x.ino.length s2] 42)
  have T0 := Lib.hid ((Bk.alloc w #[.int .i64 x.ser, .slice a1 x.st.length c1, .slice a2 x.ino.length c2] 42).later hb2)
  have U0 : Hid (Bk ((w.alloc (.cells #[.int .i64 x.ser, .slice a1 x.st.length c1, .slice a2 x.ino.length c2] 42)).alloc (.cells #[.int .i64 x.ser, .slice b1 x.st.length s1, .slice b2 x.ino.length s2] 42)) (w.heap.size + 1) #[.int .i64 x.ser, .slice b1 x.st.length s1, .slice b2 x.ino.length s2] 42) := Lib.hid (by
    have h := Bk.alloc (w.alloc (.cells #[.int .i64 x.ser, .slice a1 x.st.length c1, .slice a2 x.ino.length c2] 42)) #[.int .i64 x.ser, .slice b1 x.st.length s1, .slice b2 x.ino.length s2] 42
    simpa using h)
  have B0 : Hid (Below w.heap.size w ((w.alloc (.cells #[.int .i64 x.ser, .slice a1 x.st.length c1, .slice a2 x.ino.length c2] 42)).alloc (.cells #[.int .i64 x.ser, .slice b1 x.st.length s1, .slice b2 x.ino.length s2] 42))) := Lib.hid (hb1.trans (hb2.mono hb1.size))
  have HS1 := Lib.hid h1
  have HU1 := Lib.hid k1
  have HS2 := Lib.hid h2
  have HU2 := Lib.hid k2
  clear hb1 hb2 h1 k1 h2 k2
  go_enter Tryd.func31, Tryd.ntmps31
  go_wp2_with fail
  refine (eqIntS_any _ _ x.st _ (Cel.Rd.later B0.out _ _ HS1.out) (Cel.Rd.later B0.out _ _ HU1.out) (by omega)).mono ?_
  rintro e w1 ⟨rfl, hb⟩
  have T1 := Lib.hid (T0.out.later hb)
  have U1 := Lib.hid (U0.out.later hb)
  have B1 : Hid (Below w.heap.size w w1) := Lib.hid (B0.out.trans (hb.mono B0.out.size))
  have x1_2 := T1.out.cell (j := 2) rfl
  have y1_2 := U1.out.cell (j := 2) rfl
  clear hb
  go_wp2_with fail
  refine (eqInoS_any _ _ x.ino _ (Cel.Rd.later B1.out _ _ HS2.out) (Cel.Rd.later B1.out _ _ HU2.out) (by omega)).mono ?_
  rintro e w2 ⟨rfl, hb⟩
  have T2 := Lib.hid (T1.out.later hb)
  have U2 := Lib.hid (U1.out.later hb)
  have B2 : Hid (Below w.heap.size w w2) := Lib.hid (B1.out.trans (hb.mono B1.out.size))
  clear hb
  go_wp2
  go_ret
  exact ⟨rfl, B2.out⟩

end Go.Proofs.YtmkchilhnmkhkaaDoor
namespace Go.Proofs.YtmkchilhnmkhkaaDoor
open Go.RowKit Go.Proofs.YtmkchilhnmkhkaaDoor.Parts Go.Proofs.YtmkchilhnmkhkaaDoor.Hexa

theorem ret_i64m {a b : Int} (h : a = b) : Ending.returned (.int .i64 a) = .returned (.int .i64 b) := by rw [h]
theorem markText_n (i : Int) (k : Nat) (w : World) (h : i = k) (h0 : 0 < k) (hk : k ≤ 100000000) :
    Calls Tryd.prog 59 #[.int .i64 i] w fun e w' => e = .returned (.string (markT k)) ∧ Below w.heap.size w w' := by
  subst h; exact markText_any k w h0 hk
end Go.Proofs.YtmkchilhnmkhkaaDoor
