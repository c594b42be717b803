/- Merged texts: AppI, StSpec, OkMath, OkFits, UsrSpec, Long, ZeroSpec, NumTSpec, WordSpec, RecSpec, TextEq, EntSpec, InoSpecA, InoSpecB, InoSpecC, Grown, InoSpecD, InoSpec, GeoS, SrcRd. -/
import Derived.Test.YtmkchilhnmkhkabP15BC
import Derived.Maps.AppendAt
import Derived.Lib.AppendZeros
import Derived.Deep.AppendLies
import Derived.Lib.Hide
import Derived.Deep.DeepCutAuto
import Derived.Deep.RegionHeld3
import Derived.Test.YtmkchilhnmkhkabRows
import Derived.WalkKit
import Derived.WalkSpells
import Derived.Deep.QuietTactic
import Derived.BigQuiet
namespace Go.Proofs.Ytmkchilhnmkhkab
open Go.RowKit Go.Proofs.Ytmkchilhnmkhkab.Parts Go.Proofs.Ytmkchilhnmkhkab.Hexa

/-- What an append gives: a slice that owns the cells, in the row that it had or in a new one. -/
def AppG (P : Program) (args : Array TypeId) (ty : TypeId) (vs : Array Value) (w : World) (B e k n : Nat) (xs : List Value) (v : Value) : Prop :=
  ∃ v' w', (Builtin.append_ args ty vs).run P w = .ok v' w' ∧ w'.ownsRow B e k v' n xs ∧ w.grownBy w' v.ownBlock ∧ (v'.ownBlock = v.ownBlock ∨ v'.ownBlock = some w.heap.size)
theorem icells_append (L M : List Int) : icells (L ++ M) = icells L ++ icells M := by simp [icells]
theorem icells_one (L : List Int) : ∀ v ∈ icells L, v.oneCell' = true := by
  intro v hv
  simp only [icells, List.mem_map] at hv
  obtain ⟨x, _, rfl⟩ := hv
  rfl
/-- One int appended, in the block of the walk's own one-cell slice. -/
theorem appI (w : World) (ty : TypeId) (B : Nat) (v : Value) (n : Nat) (P : List Int) (hown : w.ownsRow B 3 1 v n (icells P)) (hB : B ≤ w.heap.size) (x : Int) (hn : n ≤ 100000000) :
    AppG Try.prog #[22, 22] ty #[v, .slice (some ⟨w.heap.size, 0, none⟩) 1 1] (w.alloc (.cells #[.int .i64 x] 3)) B 3 1 (n + 1) (icells (P ++ [x])) v := by
  obtain ⟨i0, hi, hz0, hz1, hz2⟩ := info_parts infoInt
  rw [icells_append]
  obtain ⟨v', w', hr, h2, h3, _, h5⟩ := run_append_own_at (P := Try.prog) (w := w.alloc (.cells #[.int .i64 x] 3)) B 22 ty 3 i0 _ 1 8 Try.underlying22 hi hz0 hz1 hz2 rfl (by decide) v n _ (own_below hown ((Below.refl _ _).alloc (Nat.le_refl _) _)) ⟨w.heap.size, 0, none⟩ 1 1 (icells [x]) rfl (World.news_of_block (heap_alloc_new _ _)) (icells_one [x]) (by unfold maxLen; omega) (by omega) (by simp; omega)
  exact ⟨v', w', hr, h2, h3, h5⟩
theorem wpList_appG {P : Program} {ops : Array Oper} {rest : List Oper} {o : Oper} {a : Act} {w : World} {Q : Exit → Act → World → Prop} (hgd : o.guard = none) (s x : Operand) (t tn : TypeId)
    (ho : o.op = .call { callee := .builtin .append, args := #[s, x], argTypes := #[t, tn] }) (vs vx : Value) (hs : a.eval s = vs) (hx : a.eval x = vx) {B e k n : Nat} {xs : List Value}
    (hr : AppG P #[t, tn] o.type #[vs, vx] w B e k n xs vs) (h : ∀ v' w', w'.ownsRow B e k v' n xs → w.grownBy w' vs.ownBlock → (v'.ownBlock = vs.ownBlock ∨ v'.ownBlock = some w.heap.size) → wpList P ops Q rest (a.put o.dst v') w') : wpList P ops Q (o :: rest) a w := by
  obtain ⟨v', w', r, h1, h2, h3⟩ := hr
  exact Lib.wpList_append_run w hgd s x t tn ho vs vx hs hx v' w' r (h v' w' h1 h2 h3)
end Go.Proofs.Ytmkchilhnmkhkab
namespace Go.Proofs.Ytmkchilhnmkhkab
open Go.RowKit Go.Proofs.Ytmkchilhnmkhkab.Parts Go.Proofs.Ytmkchilhnmkhkab.Hexa

def StR (zs : List Int) (n : Nat) : Prop := ∀ j, j < n → 0 ≤ zs.getD j 0 ∧ zs.getD j 0 ≤ 2
def StOk (zs : List Int) (p : Int) : Prop := StR zs zs.length ∧ (zs.length : Int) = p ∧ 1 ≤ p ∧ p ≤ 12
noncomputable def stB (zs : List Int) (p : Int) : Bool := @decide (StOk zs p) (Classical.propDecidable _)
theorem stB_yes {zs : List Int} {p : Int} (h : StOk zs p) : stB zs p = true := by unfold stB; exact @decide_eq_true _ (Classical.propDecidable _) h
theorem stB_no {zs : List Int} {p : Int} (h : ¬ StOk zs p) : stB zs p = false := by unfold stB; exact @decide_eq_false _ (Classical.propDecidable _) h
/-- Some slice of ints of the call's own. -/
def GivesI (P : List Int) (w : World) (e : Ending) (w' : World) : Prop :=
  ∃ v, e = .returned v ∧ w'.ownsRow w.heap.size 3 1 v P.length (icells P) ∧ Below w.heap.size w w'
/-- The pages below n that bear the state. -/
def withSt (zs : List Int) (s : Int) (n : Nat) : List Int := ((List.range n).filter fun j => zs.getD j 0 == s).map fun (j : Nat) => (j : Int)
theorem withSt_zero (zs : List Int) (s : Int) : withSt zs s 0 = [] := rfl
theorem withSt_yes {zs : List Int} {s : Int} {n : Nat} (h : zs.getD n 0 = s) : withSt zs s (n + 1) = withSt zs s n ++ [(n : Int)] := by
  unfold withSt; rw [List.range_succ, List.filter_append, List.filter_cons_of_pos (by rw [h]; simp)]; simp
theorem withSt_no {zs : List Int} {s : Int} {n : Nat} (h : zs.getD n 0 ≠ s) : withSt zs s (n + 1) = withSt zs s n := by
  unfold withSt; rw [List.range_succ, List.filter_append, List.filter_cons_of_neg (by simpa [List.getD] using h)]; simp
theorem withSt_len (zs : List Int) (s : Int) (n : Nat) : (withSt zs s n).length ≤ n := by
  unfold withSt; rw [List.length_map]; have := List.length_filter_le (fun j => zs.getD j 0 == s) (List.range n); simpa using this

set_option maxRecDepth 100000 in
set_option maxHeartbeats 1000000 in
theorem specStOk_any (a : Option Addr) (n c : Nat) (zs : List Int) (p : Int) (w : World) (hs : SrcI w a n zs) (hn : n ≤ 2000000) :
    Calls Try.prog 23 #[.slice a n c, .int .i64 p] w fun e w' => e = .returned (.bool (stB zs p)) ∧ w' = w := by
  have HS := Lib.hid hs
  have HL := Lib.hid hs.len
  clear hs
  go_enter Try.func23, Try.ntmps23
  go_wp2
  go_loop [5] (fun iv => ∃ k : Nat, k ≤ n ∧ iv = .int .i64 k ∧ Hid (StR zs k)) (fun iv => n - (intOf iv).toNat)
  case atStart => exact ⟨0, Nat.zero_le _, rfl, Lib.hid (fun j hj => by omega)⟩
  case round =>
    obtain ⟨k, hk, rfl, HR⟩ := hrel
    by_cases hlt : k < n
    · obtain ⟨g, off, rfl, _, d⟩ := HS.out.cell k hlt
      obtain ⟨x, hx⟩ : ∃ x, zs.getD k 0 = x := ⟨_, rfl⟩
      rw [hx] at d
      have HX := Lib.hid hx
      clear hx
      by_cases h : 0 ≤ x ∧ x ≤ 2
      · have HR2 : Hid (StR zs (k + 1)) := Lib.hid (fun j hj => by
          by_cases e : j = k
          · subst e; rw [HX.out]; exact h
          · exact HR.out j (by omega))
        go_wp2_with fail
        refine (range_yes _ h).mono ?_
        rintro e w1 ⟨rfl, rfl⟩
        clear h
        go_wp2
        go_round
        case rel => exact ⟨k + 1, by omega, by go_num, HR2⟩
        case measure => (simp [intOf]; try omega)
      · have HN := Lib.hid (stB_no (zs := zs) (p := p) (fun h9 => h (by rw [← HX.out]; exact h9.1 k (by have := HL.out; omega))))
        go_wp2_with fail
        refine (range_no _ h).mono ?_
        rintro e w1 ⟨rfl, rfl⟩
        clear h
        go_wp2
        go_ret
        exact ⟨by rw [HN.out]; rfl, rfl⟩
    · obtain rfl : n = k := by omega
      by_cases he : (n : Int) = p
      · subst he
        by_cases h : 1 ≤ (n : Int) ∧ (n : Int) ≤ 12
        · have HN := Lib.hid (stB_yes (zs := zs) (p := (n : Int)) ⟨by rw [HL.out]; exact HR.out, by rw [HL.out], h⟩)
          go_wp2_with fail
          refine (range_yes _ h).mono ?_
          rintro e w1 ⟨rfl, rfl⟩
          clear h
          go_wp2
          go_ret
          exact ⟨by rw [HN.out]; rfl, rfl⟩
        · have HN := Lib.hid (stB_no (zs := zs) (p := (n : Int)) (fun h9 => h h9.2.2))
          go_wp2_with fail
          refine (range_no _ h).mono ?_
          rintro e w1 ⟨rfl, rfl⟩
          clear h
          go_wp2
          go_ret
          exact ⟨by rw [HN.out]; rfl, rfl⟩
      · have HN := Lib.hid (stB_no (zs := zs) (p := p) (fun h9 => he (by rw [← h9.2.1, HL.out])))
        have e1 : ((n : Int) == p) = false := by simpa using he
        clear he
        go_wp2
        go_ret
        exact ⟨by rw [HN.out]; rfl, rfl⟩

set_option maxRecDepth 100000 in
set_option maxHeartbeats 1000000 in
theorem specPagesWith_any (a : Option Addr) (n c : Nat) (zs : List Int) (s : Int) (w : World) (hs : SrcI w a n zs) (hn : n ≤ 2000000) :
    Calls Try.prog 26 #[.slice a n c, .int .i64 s] w (GivesI (withSt zs s n) w) := by
  obtain ⟨i0, hi, hz0, hz1, hz2⟩ := info_parts infoInt
  have HS := Lib.hid hs
  clear hs
  go_enter Try.func26, Try.ntmps26
  have HB0 : Hid (Below w.heap.size w (w.alloc (.cells #[] 3))) := Lib.hid ((Below.refl _ _).alloc (Nat.le_refl _) _)
  have HO0 : Hid ((w.alloc (.cells #[] 3)).ownsRow w.heap.size 3 1 (.slice (some ⟨w.heap.size, 0, none⟩) 0 0) 0 (icells [])) :=
    Lib.hid (by simpa [icells] using World.ownsRow_lit (e := 3) (size := 1) (base := w.heap.size) w #[] 0 (Nat.le_refl _) (by decide) rfl)
  go_wp2
  go_loopw [5, 6] (fun v iv wr => ∃ (k : Nat) (P : List Int), k ≤ n ∧ iv = .int .i64 k ∧ Hid (P = withSt zs s k) ∧ Hid (wr.ownsRow w.heap.size 3 1 v P.length (icells P)) ∧ Hid (Below w.heap.size w wr)) (fun _ iv _ => n - (intOf iv).toNat)
  case atStart => exact ⟨0, [], Nat.zero_le _, rfl, Lib.hid rfl, HO0, HB0⟩
  case round =>
    obtain ⟨k, P, hk, rfl, HP, HO, HB⟩ := hrel
    clear HB0 HO0
    by_cases hlt : k < n
    · obtain ⟨g, off, rfl, _, d⟩ := (HS.out.later HB.out).cell k hlt
      obtain ⟨x, hx⟩ : ∃ x, zs.getD k 0 = x := ⟨_, rfl⟩
      rw [hx] at d
      have hpl : P.length ≤ 2000000 := by rw [HP.out]; have := withSt_len zs s k; omega
      have hsz := HB.out.size
      by_cases h : x = s
      · subst h
        have HE := Lib.hid (withSt_yes (zs := zs) (s := x) hx)
        clear hx
        go_wp2_with (at_builtin; refine wpList_append_own _ rfl (.tmp 20) (.tmp 22) 22 rfl w.heap.size 3 i0 (.int .i64 0) 1 8 Try.underlying22 hi hz0 hz1 hz2 rfl (by decide) _ _ _ rfl (HO.out.alloc _) ⟨wr.heap.size, 0, none⟩ 1 1 [.int .i64 k] rfl rfl (World.news_of_block (heap_alloc_new _ _)) (by simp [Value.oneCell']) (by unfold maxLen; omega) (by omega) (by simp; omega) ?_; intro v2 w2 hown2 hgrow2 hn2)
        have HB2 : Hid (Below w.heap.size w w2) := Lib.hid ((HB.out.alloc hsz _).grown hgrow2 (by simp; omega) (fun k e => (HO.out.lt k e).1))
        have HO2 : Hid (w2.ownsRow w.heap.size 3 1 v2 (P ++ [(k : Int)]).length (icells (P ++ [(k : Int)]))) := Lib.hid (by simpa [icells, List.length_append] using hown2)
        clear hown2 hgrow2 hn2 HO HB d
        go_wp2
        go_roundw
        case rel => exact ⟨k + 1, P ++ [(k : Int)], by omega, by go_num, Lib.hid (by rw [HP.out]; exact HE.out.symm), HO2, HB2⟩
        case measure => (simp [intOf]; try omega)
      · have HE := Lib.hid (withSt_no (zs := zs) (s := s) (n := k) (by rw [hx]; exact h))
        have e1 : (x == s) = false := by simpa using h
        clear hx h
        go_wp2
        go_roundw
        case rel => exact ⟨k + 1, P, by omega, by go_num, Lib.hid (by rw [HP.out]; exact HE.out.symm), HO, HB⟩
        case measure => (simp [intOf]; try omega)
    · obtain rfl : n = k := by omega
      go_wp2
      go_ret
      exact ⟨_, rfl, by rw [← HP.out]; exact HO.out, HB.out⟩
end Go.Proofs.Ytmkchilhnmkhkab
namespace Go.Proofs.Ytmkchilhnmkhkab
open Go.Proofs.Ytmkchilhnmkhkab.Byt

def InosR (L : List InoR) : Prop := ∀ j, j < L.length → InoOk (L.getD j default)
def EntsR (L : List InoR) : Prop := ∀ e ∈ entsOf L, 0 ≤ e.f0 ∧ e.f0 < (L.length : Int)
def PlaceR (L : List InoR) (i : Nat) (kd : Int) : Prop :=
  (i = 0 → kd = 2 ∧ cntI (entsOf L) i = 0) ∧ (i ≠ 0 → (kd = 0 → cntI (entsOf L) i = 0) ∧ (kd ≠ 0 → cntI (entsOf L) i = 1 ∧ depthZ L i ≠ -1))
def LinksR (L : List InoR) : Prop := EntsR L ∧ ∀ i, i < L.length → PlaceR L i (L.getD i default).kd
def RecsR (L : List InoR) (s : Nat) : Prop := ∀ r ∈ recsOf L, 1 ≤ r.f0 ∧ r.f0 ≤ (s : Int)
def UserR (L : List InoR) (pg : Nat) (st : Int) : Prop := cntP (recsOf L) pg ≤ 1 ∧ (cntP (recsOf L) pg = 1 ↔ st = 2)
def UsersR (L : List InoR) (zs : List Int) : Prop := RecsR L zs.length ∧ ∀ pg, pg < zs.length → UserR L pg (zs.getD pg 0)
def PartOkR (T P I Q : Int) (p : PartR) : Prop :=
  GeoR T P I Q ∧ SerR p.ser ∧ StOk p.st P ∧ (p.ino.length : Int) = I ∧ InosR p.ino ∧ LinksR p.ino ∧ UsersR p.ino p.st ∧ ((withSt p.st 2 p.st.length).length : Int) ≤ Q
noncomputable def decB (q : Prop) : Bool := @decide q (Classical.propDecidable _)
theorem decB_yes {q : Prop} (h : q) : decB q = true := by unfold decB; exact @decide_eq_true _ (Classical.propDecidable _) h
theorem decB_no {q : Prop} (h : ¬ q) : decB q = false := by unfold decB; exact @decide_eq_false _ (Classical.propDecidable _) h
theorem decB_iff {q : Prop} : decB q = true ↔ q := by
  unfold decB
  exact @decide_eq_true_iff _ (Classical.propDecidable _)
noncomputable def ptB (T P I Q : Int) (p : PartR) : Bool := decB (PartOkR T P I Q p)

theorem getD_mem {α : Type} [Inhabited α] {L : List α} {j : Nat} (h : j < L.length) : L.getD j default ∈ L := by
  simp only [List.getD, List.getElem?_eq_getElem h, Option.getD_some]
  exact List.getElem_mem _
theorem mem_getD {α : Type} [Inhabited α] {L : List α} {x : α} (h : x ∈ L) : ∃ j, j < L.length ∧ L.getD j default = x := by
  obtain ⟨j, hj, rfl⟩ := List.getElem_of_mem h
  exact ⟨j, hj, by simp [List.getD, hj]⟩
theorem mem_ents {L : List InoR} {e : EntryR} (h : e ∈ entsOf L) : ∃ n ∈ L, n.kd = 2 ∧ e ∈ n.E := by
  unfold entsOf at h
  obtain ⟨n, hn, he⟩ := List.mem_flatMap.1 h
  by_cases hk : n.kd = 2
  · rw [dirE_yes hk] at he; exact ⟨n, hn, hk, he⟩
  · rw [dirE_no hk] at he; cases he
theorem mem_recs {L : List InoR} {r : RecR} (h : r ∈ recsOf L) : ∃ n ∈ L, n.kd = 1 ∧ r ∈ n.R := by
  unfold recsOf at h
  obtain ⟨n, hn, he⟩ := List.mem_flatMap.1 h
  by_cases hk : n.kd = 1
  · rw [filR_yes hk] at he; exact ⟨n, hn, hk, he⟩
  · rw [filR_no hk] at he; cases he
/-- What a valid inode's entries and records are. -/
theorem ok_ents {n : InoR} (h : InoOk n) : n.E = dirE n ∧ ∀ e ∈ n.E, 1 ≤ e.f0 := by
  rcases h.2 with ⟨hk, h1, h2, h3, h4⟩ | ⟨hk, h1, h2, h3, h4, h5⟩ | ⟨hk, h1, h2, h3, h4, h5⟩
  · have h9 : n.E = [] := List.length_eq_zero_iff.1 h4
    exact ⟨by rw [h9, dirE_no (by omega)], fun e he => by rw [h9] at he; cases he⟩
  · have h9 : n.E = [] := List.length_eq_zero_iff.1 h4
    exact ⟨by rw [h9, dirE_no (by omega)], fun e he => by rw [h9] at he; cases he⟩
  · refine ⟨(dirE_yes hk).symm, fun e he => ?_⟩
    obtain ⟨j, hj, rfl⟩ := mem_getD he
    exact (h5 j hj).1.1.1
theorem ok_recs {n : InoR} (h : InoOk n) : n.R = filR n ∧ ∀ r ∈ n.R, 1 ≤ r.f0 := by
  rcases h.2 with ⟨hk, h1, h2, h3, h4⟩ | ⟨hk, h1, h2, h3, h4, h5⟩ | ⟨hk, h1, h2, h3, h4, h5⟩
  · have h9 : n.R = [] := List.length_eq_zero_iff.1 h3
    exact ⟨by rw [h9, filR_no (by omega)], fun e he => by rw [h9] at he; cases he⟩
  · refine ⟨(filR_yes hk).symm, fun r hr => ?_⟩
    obtain ⟨j, hj, rfl⟩ := mem_getD hr
    exact (h5 j hj).1.1.1
  · have h9 : n.R = [] := List.length_eq_zero_iff.1 h3
    exact ⟨by rw [h9, filR_no (by omega)], fun e he => by rw [h9] at he; cases he⟩
/-- The records counted, inode by inode. -/
def sumR (L : List InoR) : Nat := (L.map fun n => n.R.length).sum
theorem sumR_next {L : List InoR} {k : Nat} (hk : k < L.length) : sumR (L.take (k + 1)) = sumR (L.take k) + (L.getD k default).R.length := by
  unfold sumR
  rw [take_next hk, List.map_append, List.sum_append]
  simp
theorem sumR_eq : ∀ L : List InoR, (∀ n ∈ L, InoOk n) → sumR L = (recsOf L).length
  | [], _ => rfl
  | n :: r, h => by
    have h1 := sumR_eq r (fun x hx => h x (List.mem_cons_of_mem _ hx))
    have h2 := (ok_recs (h n List.mem_cons_self)).1
    show n.R.length + sumR r = (recsOf (n :: r)).length
    unfold recsOf at h1 ⊢
    rw [List.flatMap_cons, List.length_append, ← h2, h1]
theorem sumR_le (L : List InoR) (k : Nat) : sumR (L.take k) ≤ szL (celsE cIno L) := by
  refine Nat.le_trans ?_ (szL_take cIno L k)
  generalize L.take k = M
  induction M with
  | nil => exact Nat.zero_le _
  | cons n r ih =>
    have h1 := cIno_sz n
    have h2 := len_sz cRec n.R
    show n.R.length + sumR r ≤ _
    rw [celsE, szL_append, h1]
    omega

theorem depth_ge (L : List InoR) : ∀ (f n : Nat) (i : Int), depthGo L f n i = -1 ∨ 0 ≤ depthGo L f n i
  | 0, _, _ => .inl rfl
  | f + 1, n, i => by
    rw [depthGo]
    split
    · exact .inr (by omega)
    · split
      · exact .inl rfl
      · exact depth_ge L f (n + 1) _
theorem depth_neg (L : List InoR) (i : Int) : depthZ L i < 0 ↔ depthZ L i = -1 := by
  have := depth_ge L (L.length + 1) 0 i
  unfold depthZ
  omega

/-! Users, counted. -/
theorem withSt_mem {zs : List Int} {s x : Int} {n : Nat} : x ∈ withSt zs s n ↔ ∃ j : Nat, j < n ∧ zs.getD j 0 = s ∧ x = (j : Int) := by
  unfold withSt
  simp only [List.mem_map, List.mem_filter, List.mem_range, beq_iff_eq]
  constructor
  · rintro ⟨j, ⟨h1, h2⟩, rfl⟩; exact ⟨j, h1, h2, rfl⟩
  · rintro ⟨j, h1, h2, rfl⟩; exact ⟨j, ⟨h1, h2⟩, rfl⟩
theorem withSt_nodup (zs : List Int) (s : Int) (n : Nat) : (withSt zs s n).Nodup := by
  unfold withSt
  rw [List.Nodup, List.pairwise_map]
  exact (List.nodup_range.filter _).imp (fun h e => h (by omega))
theorem sum_users (U : List Int) (hU : U.Nodup) : ∀ R : List RecR, (U.map (cntP R)).sum = R.countP (fun r => decide (r.f0 - 1 ∈ U))
  | [] => by
    have : ∀ V : List Int, (V.map (cntP [])).sum = 0 := by
      intro V
      induction V with
      | nil => rfl
      | cons x V ih => rw [List.map_cons, List.sum_cons, ih]; rfl
    rw [this]; rfl
  | r :: R => by
    have ih := sum_users U hU R
    have key : ∀ V : List Int, V.Nodup → (V.map (cntP (r :: R))).sum = (V.map (cntP R)).sum + if r.f0 - 1 ∈ V then 1 else 0 := by
      intro V
      induction V with
      | nil => intro _; rfl
      | cons x V ihV =>
        intro hn
        obtain ⟨h1, h2⟩ := List.nodup_cons.1 hn
        have h3 : cntP (r :: R) x = cntP R x + if r.f0 - 1 = x then 1 else 0 := by
          unfold cntP
          rw [List.countP_cons]
          congr 1
          by_cases h : r.f0 = x + 1
          · simp [h]
          · have h' : ¬ r.f0 - 1 = x := by omega
            simp [h, h']
        rw [List.map_cons, List.sum_cons, List.map_cons, List.sum_cons, ihV h2, h3]
        by_cases h : r.f0 - 1 = x
        · have h4 : r.f0 - 1 ∉ V := by rw [h]; exact h1
          rw [if_pos h, if_neg h4, if_pos (by rw [h]; exact List.mem_cons_self)]
          omega
        · by_cases h4 : r.f0 - 1 ∈ V
          · rw [if_neg h, if_pos h4, if_pos (List.mem_cons_of_mem _ h4)]; omega
          · have h5 : r.f0 - 1 ∉ x :: V := by simp only [List.mem_cons, not_or]; exact ⟨h, h4⟩
            rw [if_neg h, if_neg h4, if_neg h5]
            omega
    rw [key U hU, ih, List.countP_cons]
    congr 1
    by_cases h : r.f0 - 1 ∈ U <;> simp [h]
theorem sum_ones {U : List Int} {f : Int → Nat} (h : ∀ x ∈ U, f x = 1) : (U.map f).sum = U.length := by
  induction U with
  | nil => rfl
  | cons x V ih =>
    rw [List.map_cons, List.sum_cons, h x List.mem_cons_self, ih (fun y hy => h y (List.mem_cons_of_mem _ hy)), List.length_cons, Nat.add_comm]
theorem cntP_pos {R : List RecR} {r : RecR} (h : r ∈ R) : 1 ≤ cntP R (r.f0 - 1) := by
  unfold cntP
  rw [Nat.one_le_iff_ne_zero]
  intro h0
  have := List.countP_eq_zero.1 h0 r h
  simp at this
/-- Each used page one user, no other page any, no record elsewhere: told by the used pages alone, and by how many records there are. -/
theorem users_iff (L : List InoR) (zs : List Int) (h1 : ∀ r ∈ recsOf L, 1 ≤ r.f0) (hone : ∀ x ∈ withSt zs 2 zs.length, cntP (recsOf L) x = 1) :
    UsersR L zs ↔ (withSt zs 2 zs.length).length = (recsOf L).length := by
  have hs := sum_users _ (withSt_nodup zs 2 zs.length) (recsOf L)
  rw [sum_ones hone] at hs
  constructor
  · rintro ⟨ha, hb⟩
    rw [hs, List.countP_eq_length.2]
    intro r hr
    have h2 := ha r hr
    have h3 := hb (r.f0 - 1).toNat (by omega)
    have h4 : ((r.f0 - 1).toNat : Int) = r.f0 - 1 := by omega
    have h5 := cntP_pos hr
    unfold UserR at h3
    rw [h4] at h3
    have h6 : cntP (recsOf L) (r.f0 - 1) = 1 := by omega
    simp only [decide_eq_true_eq]
    exact withSt_mem.2 ⟨(r.f0 - 1).toNat, by omega, h3.2.1 h6, h4.symm⟩
  · intro hlen
    rw [hlen] at hs
    have hall := List.countP_eq_length.1 hs.symm
    have hin : ∀ r ∈ recsOf L, r.f0 - 1 ∈ withSt zs 2 zs.length := fun r hr => by simpa using hall r hr
    refine ⟨fun r hr => ?_, fun pg hpg => ?_⟩
    · obtain ⟨j, hj, _, e⟩ := withSt_mem.1 (hin r hr)
      exact ⟨h1 r hr, by omega⟩
    · by_cases hst : zs.getD pg 0 = 2
      · have := hone (pg : Int) (withSt_mem.2 ⟨pg, hpg, hst, rfl⟩)
        unfold UserR
        omega
      · have h0 : cntP (recsOf L) (pg : Int) = 0 := by
          unfold cntP
          rw [List.countP_eq_zero]
          intro r hr
          obtain ⟨j, hj, hj2, e⟩ := withSt_mem.1 (hin r hr)
          simp only [beq_iff_eq]
          intro h9
          have : j = pg := by omega
          rw [this] at hj2
          exact hst hj2
        unfold UserR
        rw [h0]
        omega
theorem users_one {L : List InoR} {zs : List Int} {x : Int} (h : UsersR L zs) (hx : x ∈ withSt zs 2 zs.length) : cntP (recsOf L) x = 1 := by
  obtain ⟨j, hj, h2, rfl⟩ := withSt_mem.1 hx
  exact (h.2 j hj).2.2 h2
end Go.Proofs.Ytmkchilhnmkhkab
namespace Go.Proofs.Ytmkchilhnmkhkab
open Go.RowKit Go.Proofs.Ytmkchilhnmkhkab.Parts

/-- How great an inode's parts are. -/
theorem ino_fits {x : InoR} (h : szL (cIno.cels x) ≤ 1048576) (ht : TyL (cIno.cels x)) : (-9223372036854775808 ≤ x.sz ∧ x.sz ≤ 9223372036854775807) ∧ x.R.length ≤ 1048576 ∧ x.E.length ≤ 1048576 ∧ FitRec x.R x.R.length 2000000 ∧ FitEntry x.E x.E.length 2000000 := by
  rw [cIno_sz] at h
  have h1 := len_sz cRec x.R
  have h2 := len_sz cEntry x.E
  obtain ⟨_, t1, _, _, _, _, _⟩ := ht
  refine ⟨t1, by omega, by omega, fun j hj => ?_, fun j hj => ?_⟩
  · have h3 := szL_at cRec x.R j hj
    rw [cRec_sz] at h3
    have := sz_row' cRec x.R
    omega
  · have h3 := szL_at cEntry x.E j hj
    rw [cEntry_sz] at h3
    have := sz_row' cEntry x.E
    omega
theorem part_ino {p : PartR} (hz : szL (cPart.cels p) ≤ 1048576) : p.ino.length ≤ 1048576 ∧ ∀ k, k < p.ino.length → szL (cIno.cels (p.ino.getD k default)) ≤ 1048576 := by
  rw [cPart_sz] at hz
  have h1 := sz_row' cIno p.ino
  exact ⟨by omega, fun k hk => by have := szL_at cIno p.ino k hk; omega⟩
end Go.Proofs.Ytmkchilhnmkhkab
namespace Go.Proofs.Ytmkchilhnmkhkab
open Go.RowKit Go.Proofs.Ytmkchilhnmkhkab.Parts Go.Proofs.Ytmkchilhnmkhkab.Hexa

set_option maxRecDepth 100000 in
set_option maxHeartbeats 2000000 in
theorem specUsers_any (p : PartR) (a1 : Option Addr) (c1 : Nat) (a2 : Option Addr) (c2 : Nat) (i : Int) (w : World) (h2 : (celRow cIno p.ino).Rd w (.slice a2 p.ino.length c2)) (hz : szL (cPart.cels p) ≤ 100000000) (ht : TyL (celsE cIno p.ino)) (hi : 0 ≤ i ∧ i ≤ 1000000) :
    Calls Try.prog 27 #[.agg #[.int .i64 p.ser, .slice a1 p.st.length c1, .slice a2 p.ino.length c2], .int .i64 i] w (SaysI (cntP (recsOf p.ino) i : Nat) w) := by
  have B0 := Lib.hid (below_bk w (.cells #[.int .i64 p.ser, .slice a1 p.st.length c1, .slice a2 p.ino.length c2] 30))
  have T0 := Lib.hid (Bk.alloc w #[.int .i64 p.ser, .slice a1 p.st.length c1, .slice a2 p.ino.length c2] 30)
  have HS := Lib.hid (Cel.Rd.later B0.out _ _ h2)
  rw [cPart_sz] at hz
  have hz1 : p.ino.length + szL (celsE cIno p.ino) ≤ 100000000 := by have := sz_row cIno p.ino; omega
  have HE : Hid (∀ k, (recsOf (p.ino.take k)).length ≤ 100000000) := Lib.hid (fun k => by have := recs_take p.ino k; omega)
  have hn : p.ino.length ≤ 100000000 := by omega
  have HY : Hid (∀ k, k < p.ino.length → (p.ino.getD k default).R.length ≤ 100000000) := Lib.hid (fun k hk => by
    have h3 := szL_at cIno p.ino k hk
    rw [cIno_sz] at h3
    have := len_sz cRec (p.ino.getD k default).R
    omega)
  have HT := Lib.hid ht
  obtain ⟨hi0, hi1⟩ := hi
  clear h2 hz hz1 ht
  obtain ⟨W0, hW0⟩ : ∃ x, x = w.alloc (.cells #[.int .i64 p.ser, .slice a1 p.st.length c1, .slice a2 p.ino.length c2] 30) := ⟨_, rfl⟩
  rw [← hW0] at B0 T0 HS
  have HW0 := Lib.hid hW0
  clear hW0
  have c2' := T0.out.cell (j := 2) rfl
  go_enter Try.func27, Try.ntmps27
  go_wp2
  rw [← HW0.out]
  go_loopw [5, 6] (fun nv kv wr => ∃ (k m : Nat), k ≤ p.ino.length ∧ kv = .int .i64 k ∧ nv = .int .i64 (m : Int) ∧ m ≤ 100000000 ∧ Hid (m = cntP (recsOf (p.ino.take k)) i) ∧ W0 = wr) (fun _ kv _ => p.ino.length - (intOf kv).toNat)
  case atStart => exact ⟨0, 0, Nat.zero_le _, rfl, rfl, by omega, Lib.hid rfl, rfl⟩
  case round =>
    obtain ⟨k, m, hk, rfl, rfl, hm, HM, rfl⟩ := hrel
    by_cases hlt : k < p.ino.length
    · have HE1 := Lib.hid (HE.out (k + 1))
      have HN := Lib.hid (recsOf_next hlt)
      have hy := HY.out k hlt
      obtain ⟨g, off, a4, c4, a5, c5, rfl, hg, d0, d1, d2, d3, d4, d5, r4, r5⟩ := cIno_at HS.out k hlt
      obtain ⟨x, hx⟩ : ∃ x, p.ino.getD k default = x := ⟨_, rfl⟩
      have HTx := Lib.hid (TyL_at cIno p.ino k HT.out hlt)
      rw [hx] at d0 d4 r4 HN hy HTx
      clear hx d1 d2 d3 d5 r5
      have R5 := Lib.hid r4
      clear r4
      have HTr : Hid (TyL (celsE cRec x.R)) := Lib.hid HTx.out.2.2.2.2.1.2
      clear HTx
      go_wp2
      go_loopw [5, 7] (fun nv jv wr => ∃ (j m' : Nat), j ≤ x.R.length ∧ jv = .int .i64 j ∧ nv = .int .i64 (m' : Int) ∧ m' ≤ 100000000 ∧ Hid (m' = m + cntP (x.R.take j) i) ∧ (x.kd = 1 ∨ j = 0) ∧ W0 = wr) (fun _ jv _ => x.R.length - (intOf jv).toNat)
      case atStart => exact ⟨0, m, Nat.zero_le _, rfl, rfl, hm, Lib.hid rfl, .inr rfl, rfl⟩
      case round =>
        obtain ⟨j, m', hj, rfl, rfl, hm', HM', hor, rfl⟩ := hrel
        by_cases hjt : j < x.R.length
        · by_cases hkd : x.kd = 1
          · rw [hkd] at d0
            obtain ⟨ge, oe, rfl, hge, q0, q1, q2⟩ := cRec_at R5.out j hjt
            have hb : -9223372036854775808 ≤ (x.R.getD j default).f0 ∧ (x.R.getD j default).f0 ≤ 9223372036854775807 := (TyL_at cRec x.R j HTr.out hjt).1
            obtain ⟨ev, hev⟩ : ∃ e, (x.R.getD j default).f0 = e := ⟨_, rfl⟩
            rw [hev] at q0 hb
            clear q1 q2
            by_cases hq : ev = i + 1
            · have HC := Lib.hid (cntP_yes hjt (hev.trans hq))
              subst hq
              clear hev
              have hm9 : m' + 1 ≤ 100000000 := by
                have h1 := HM'.out
                have h2 := HC.out
                have h3 := HE1.out
                rw [HN.out, filR_yes hkd, List.length_append] at h3
                have h4 := HM.out
                have h5 := cntP_le (recsOf (p.ino.take k)) i
                have h6 := cntP_le (x.R.take (j + 1)) i
                have h7 : (x.R.take (j + 1)).length ≤ x.R.length := by rw [List.length_take]; omega
                omega
              go_wp2
              go_roundw
              case rel => exact ⟨j + 1, m' + 1, by omega, by go_num, by go_num, hm9, Lib.hid (by have := HM'.out; have := HC.out; omega), by simp [hkd], by first | rfl | trivial⟩
              case measure => (simp [intOf]; try omega)
            · have HC := Lib.hid (cntP_no hjt (fun e => hq (hev.symm.trans e)))
              clear hev
              by_cases hmin : ev = -9223372036854775808
              case pos =>
                have hwr : wrap64 (-9223372036854775809) = 9223372036854775807 := by unfold wrap64; omega
                have hne : ¬ ((9223372036854775807 : Int) = i) := by omega
                clear hq
                go_wp2
                go_roundw
                case rel => exact ⟨j + 1, m', by omega, by go_num, rfl, hm', Lib.hid (by have := HM'.out; have := HC.out; omega), by simp [hkd], by first | rfl | trivial⟩
                case measure => (simp [intOf]; try omega)
              have hne : ¬ (ev - 1 = i) := by omega
              have hge1 : -9223372036854775807 ≤ ev := by omega
              go_wp2
              go_roundw
              case rel => exact ⟨j + 1, m', by omega, by go_num, rfl, hm', Lib.hid (by have := HM'.out; have := HC.out; omega), by simp [hkd], by first | rfl | trivial⟩
              case measure => (simp [intOf]; try omega)
          · obtain rfl : j = 0 := by
              rcases hor with h | h
              · exact absurd h hkd
              · exact h
            have HM2 : Hid (m' = cntP (recsOf (p.ino.take (k + 1))) i) := Lib.hid (by
              rw [HN.out, filR_no hkd, List.append_nil, HM'.out, ← HM.out]; rfl)
            go_wp2
            go_roundw
            case rel => exact ⟨k + 1, m', by omega, by go_num, rfl, hm', HM2, by first | rfl | trivial⟩
            case measure => (simp [intOf]; try omega)
        · obtain rfl : j = x.R.length := by omega
          have HM2 : Hid (m' = cntP (recsOf (p.ino.take (k + 1))) i) := Lib.hid (by
            rw [HN.out, cntP_append, ← HM.out, HM'.out, List.take_length]
            rcases hor with h | h
            · rw [filR_yes h]
            · have h9 : x.R = [] := List.length_eq_zero_iff.1 h
              by_cases hkd : x.kd = 1
              · rw [filR_yes hkd]
              · rw [filR_no hkd, h9])
          go_wp2
          go_roundw
          case rel => exact ⟨k + 1, m', by omega, by go_num, rfl, hm', HM2, by first | rfl | trivial⟩
          case measure => (simp [intOf]; try omega)
    · obtain rfl : k = p.ino.length := by omega
      have h9 := HM.out
      rw [List.take_length] at h9
      subst h9
      go_wp2
      go_ret
      exact ⟨rfl, B0.out⟩
end Go.Proofs.Ytmkchilhnmkhkab
namespace Go.Proofs.Ytmkchilhnmkhkab
open Go.RowKit Go.Proofs.Ytmkchilhnmkhkab.Hexa Go.Proofs.Ytmkchilhnmkhkab.Byt Go.Proofs.Ytmkchilhnmkhkab.BitsM

set_option maxRecDepth 100000 in
set_option maxHeartbeats 1000000 in
theorem long_any (n : Nat) (x : UInt8) (w : World) (hn : n ≤ 8000000) :
    Calls Try.prog 70 #[.int .i64 n, .int .u8 x.toNat] w fun e w' => e = .returned (.string (longB n x)) ∧ Below w.heap.size w w' := by
  obtain ⟨i0, hi, hz0, hz1, hz2⟩ := info_parts infoByte
  obtain ⟨xv, hxv⟩ : ∃ xv : Int, (x.toNat : Int) = xv := ⟨_, rfl⟩
  rw [hxv]
  have HXV := Lib.hid hxv
  clear hxv
  go_enter Try.func70, Try.ntmps70
  go_wp2_with (at_make; refine wpList_make_full _ rfl _ _ 103 rfl w.heap.size 5 i0 (.int .u8 0) 1 Try.underlying103 hi hz0 hz1 .i64 .i64 _ _ n rfl rfl rfl rfl (by rw [hz2]; omega) (by unfold maxLen; omega) (Nat.le_refl _) ?_; intro w0 hown0 hgrow0)
  have hg0 : Below w.heap.size w w0 := (Below.refl _ _).grown hgrow0 (Nat.le_refl _) (fun k h => by cases h)
  have HO0 := Lib.hid hown0
  clear hown0 hgrow0
  go_loopw [6] (fun iv wr => ∃ (k : Nat) (xs : List Value), k ≤ n ∧ iv = .int .i64 k ∧ Hid (wr.ownsRow w.heap.size 5 1 (.slice (some ⟨w.heap.size, 0, none⟩) n n) n xs) ∧ Hid (∀ j, j < k → xs[j]? = some (.int .u8 xv)) ∧ Below w.heap.size w wr)
    (fun iv _ => n - (intOf iv).toNat)
  case atStart => exact ⟨0, _, Nat.zero_le _, rfl, HO0, Lib.hid (fun j hj => by omega), hg0⟩
  case round =>
    clear HO0 hg0
    obtain ⟨k, xs, hk, rfl, HW, HX, hbel⟩ := hrel
    have hxl : Hid (xs.length = n) := Lib.hid (own_length HW.out)
    by_cases hlt : k < n
    · have c3 : ∃ v, wr.cell? ⟨w.heap.size, k, none⟩ = some v := ⟨xs[k]'(by have := hxl.out; omega), by rw [HW.out.cellAt k (by omega)]; simp [hxl.out, hlt]⟩
      obtain ⟨v3, c3⟩ := c3
      have z3 := HW.out.frozenAt k
      have O1 := Lib.hid (HW.out.stored k (.int .u8 xv)).1
      have hb1 : Below w.heap.size w (wr.setCell ⟨w.heap.size, k, none⟩ (.int .u8 xv)) := hbel.setCell (Nat.le_refl _) _
      have X1 : Hid (∀ j, j < k + 1 → (xs.set k (.int .u8 xv))[j]? = some (.int .u8 xv)) := Lib.hid (fun j hj => by
        by_cases e : j = k
        · subst e; rw [List.getElem?_set_self (by have := hxl.out; omega)]
        · rw [List.getElem?_set_ne (by omega)]; exact HX.out j (by omega))
      go_wp2
      go_roundw
      case rel => exact ⟨k + 1, _, by omega, by go_num, O1, X1, hb1⟩
      case measure => (simp [intOf]; try omega)
    · obtain rfl : k = n := by omega
      have hfin : xs = bcells (List.replicate k x) := by
        apply List.ext_getElem?
        intro j
        by_cases hj : j < k
        · rw [HX.out j hj, ← HXV.out]; simp [bcells, hj]
        · rw [List.getElem?_eq_none (by have := hxl.out; omega), List.getElem?_eq_none (by rw [bcells_length]; simp; omega)]
      have ho := HW.out
      rw [hfin] at ho
      have hconv := own_string (P := Try.prog) 103 9 Try.underlying103 Try.underlying5 Try.underlying9 ho
      clear hfin ho
      go_wp2
      go_ret
      exact ⟨rfl, hbel⟩

end Go.Proofs.Ytmkchilhnmkhkab
namespace Go.Proofs.Ytmkchilhnmkhkab
open Go.RowKit Go.Proofs.Ytmkchilhnmkhkab.Hexa Go.Proofs.Ytmkchilhnmkhkab.Byt Go.Proofs.Ytmkchilhnmkhkab.BitsM Go.Proofs.Ytmkchilhnmkhkab.Parts

set_option maxRecDepth 100000 in
set_option maxHeartbeats 400000 in
theorem specZero_any (n : Int) (w : World) :
    Calls Try.prog 66 #[.int .i64 n] w fun e w' => e = .returned (.string (zeroB n)) ∧ Below w.heap.size w w' := by
  by_cases h : 0 ≤ n ∧ n ≤ 20000
  · have HE : Hid (zeroB n = longB n.toNat 0) := Lib.hid (if_pos h)
    have HR := Lib.hid h
    obtain ⟨k, rfl⟩ : ∃ k : Nat, n = k := ⟨n.toNat, by omega⟩
    have KL := Lib.hid fun w => long_any k 0 w (by omega)
    clear h
    go_enter Try.func66, Try.ntmps66
    go_wp2_with (first
      | (go_at_call 22; refine (range_yes _ HR.out).mono ?_; rintro e w1 ⟨rfl, rfl⟩)
      | (go_at_call 70; refine (KL.out _).mono ?_; rintro e w2 ⟨rfl, hb2⟩))
    go_ret
    exact ⟨by rw [HE.out]; rfl, hb2⟩
  · have HE : Hid (zeroB n = ⟨#[]⟩) := Lib.hid (if_neg h)
    have HR := Lib.hid h
    clear h
    go_enter Try.func66, Try.ntmps66
    go_wp2_with (first
      | (go_at_call 22; refine (range_no _ HR.out).mono ?_; rintro e w1 ⟨rfl, rfl⟩))
    go_ret
    exact ⟨by rw [HE.out]; rfl, Below.refl _ _⟩

end Go.Proofs.Ytmkchilhnmkhkab
namespace Go.Proofs.Ytmkchilhnmkhkab
open Go.RowKit Go.Proofs.Ytmkchilhnmkhkab.Hexa Go.Proofs.Ytmkchilhnmkhkab.Byt Go.Proofs.Ytmkchilhnmkhkab.BitsM Go.Proofs.Ytmkchilhnmkhkab.Parts

set_option maxRecDepth 100000 in
set_option maxHeartbeats 1000000 in
theorem specNum_yes (m k : Nat) (w : World) (hk : 1 ≤ k) (hk' : k ≤ 7) (hm : m < 256 ^ k) :
    Calls Try.prog 53 #[.int .i64 m, .int .i64 k] w fun e w' => e = .returned (.string (numB m k)) ∧ Below w.heap.size w w' := by
  have hmb : m < 72057594037927936 := Nat.lt_of_lt_of_le hm (Nat.le_trans (Nat.pow_le_pow_right (by omega) hk') (by decide))
  have hq := shift_zero hm
  have h0 : ¬ ((m : Int) < 0) := by omega
  have HR : Hid ((1 : Int) ≤ (k : Int) ∧ (k : Int) ≤ 7) := Lib.hid (by omega)
  clear hm
  go_enter Try.func53, Try.ntmps53
  go_wp2_with (first
    | (go_at_call 22; refine (range_yes _ HR.out).mono ?_; rintro e w1 ⟨rfl, rfl⟩))
  try rw [hq]
  clear hq
  go_loopw [5, 6] (fun v iv wr => ∃ j : Nat, j ≤ k ∧ iv = .int .i64 ((k : Int) - 1 - j) ∧ Bytes wr w1.heap.size 5 v (numL m k j) ∧ Below w1.heap.size w1 wr)
    (fun _ iv _ => (intOf iv + 1).toNat)
  case atStart => exact ⟨0, Nat.zero_le _, by go_num, bytes_of_own (l := []) (World.ownsRow_lit w1 #[] 0 (Nat.le_refl _) (by decide) rfl), (Below.refl _ _).alloc (Nat.le_refl _) _⟩
  case round =>
    obtain ⟨j, hj, rfl, hb, hg⟩ := hrel
    obtain ⟨a, c, rfl⟩ := bytes_len hb
    have hl := numL_length m k j
    by_cases hlt : j < k
    · have hw : IntKind.u64.wrap ((k : Int) - 1 - j) = (k : Int) - 1 - j := IntWalk.u64_in _ (by omega)
      have hsh : ((k : Int) - 1 - j).toNat = k - 1 - j := by omega
      have hge : 0 ≤ (k : Int) - 1 - j := by omega
      go_wp2_with (first
        | (at_builtin; refine wpList_append_out rfl (.tmp 29) (.tmp 36) 103 103 rfl _ _ rfl rfl (outB _ hb hg.size _ (UInt8.ofNat (m / 256 ^ (k - 1 - j))) _ (num_byte m (k - 1 - j)) (by omega)) ?_; intro v1 w2 hb1 hg1))
      rw [numL_next] at hb1
      go_roundw
      case rel => exact ⟨j + 1, by omega, by go_num, hb1, (hg.alloc hg.size _).trans hg1⟩
      case measure => simp [intOf]; omega
    · obtain rfl : j = k := by omega
      have hconv := bytes_string (P := Try.prog) 103 9 Try.underlying103 Try.underlying5 Try.underlying9 hb
      rw [hl] at hconv
      go_wp2
      go_ret
      exact ⟨rfl, hg⟩

set_option maxRecDepth 100000 in
set_option maxHeartbeats 1000000 in
theorem specNum_no (n width : Int) (w : World) (h : ¬ NumFits n width) (hn : n ≤ 9223372036854775807) :
    Calls Try.prog 53 #[.int .i64 n, .int .i64 width] w fun e w' => e = .returned (.string ⟨#[]⟩) ∧ w' = w := by
  by_cases h0 : n < 0
  · go_enter Try.func53, Try.ntmps53
    go_wp2
    go_ret
    exact ⟨rfl, rfl⟩
  · by_cases hr : 1 ≤ width ∧ width ≤ 7
    · have hbig : ¬ n < 256 ^ width.toNat := fun hlt => h ⟨by omega, hr, hlt⟩
      obtain ⟨k, rfl⟩ : ∃ k : Nat, width = k := ⟨width.toNat, by omega⟩
      obtain ⟨m, rfl⟩ : ∃ m : Nat, n = m := ⟨n.toNat, by omega⟩
      have hm : 256 ^ k ≤ m := by
        have e : ((k : Int).toNat) = k := by omega
        rw [e] at hbig
        have e2 : (256 : Int) ^ k = ((256 ^ k : Nat) : Int) := by simp
        rw [e2] at hbig
        omega
      have hq := shift_pos hm
      have HR := Lib.hid hr
      have hk7 : k ≤ 7 := by omega
      clear h hbig hm hr
      go_enter Try.func53, Try.ntmps53
      go_wp2_with (first
        | (go_at_call 22; refine (range_yes _ HR.out).mono ?_; rintro e w1 ⟨rfl, rfl⟩))
      go_ret
      exact ⟨rfl, rfl⟩
    · have HR := Lib.hid hr
      clear h hr
      go_enter Try.func53, Try.ntmps53
      go_wp2_with (first
        | (go_at_call 22; refine (range_no _ HR.out).mono ?_; rintro e w1 ⟨rfl, rfl⟩))
      go_ret
      exact ⟨rfl, rfl⟩

theorem specNum_any (n width : Int) (w : World) (hn : n ≤ 9223372036854775807) :
    Calls Try.prog 53 #[.int .i64 n, .int .i64 width] w fun e w' => e = .returned (.string (numTextB n width)) ∧ Below w.heap.size w w' := by
  by_cases h : NumFits n width
  · have hE : numTextB n width = numB n.toNat width.toNat := by unfold numTextB; exact if_pos h
    obtain ⟨h0, ⟨h1, h7⟩, hf⟩ := h
    obtain ⟨m, rfl⟩ : ∃ m : Nat, n = m := ⟨n.toNat, by omega⟩
    obtain ⟨k, rfl⟩ : ∃ k : Nat, width = k := ⟨width.toNat, by omega⟩
    rw [hE]
    simp only [Int.toNat_natCast] at hf ⊢
    have e2 : (256 : Int) ^ k = ((256 ^ k : Nat) : Int) := by simp
    rw [e2] at hf
    exact specNum_yes m k w (by omega) (by omega) (by omega)
  · have hE : numTextB n width = ⟨#[]⟩ := by unfold numTextB; exact if_neg h
    rw [hE]
    exact (specNum_no n width w h hn).mono fun e w' ⟨he, hw⟩ => ⟨he, by rw [hw]; exact Below.refl _ _⟩
end Go.Proofs.Ytmkchilhnmkhkab
namespace Go.Proofs.Ytmkchilhnmkhkab
open Go.RowKit Go.Proofs.Ytmkchilhnmkhkab.Hexa Go.Proofs.Ytmkchilhnmkhkab.Byt Go.Proofs.Ytmkchilhnmkhkab.BitsM Go.Proofs.Ytmkchilhnmkhkab.Parts

set_option maxRecDepth 100000 in
set_option maxHeartbeats 400000 in
theorem specWord_any (s : ByteArray) (w : World) :
    Calls Try.prog 55 #[.string s] w fun e w' => e = .returned (.string (wordB s)) ∧ Below w.heap.size w w' := by
  by_cases h : s.size ≤ 8
  · have HE : Hid (wordB s = s ++ longB (8 - s.size) 0) := Lib.hid (if_pos h)
    have hsz : s.size + (longB (8 - s.size) 0).size ≤ 8 := by rw [longB_size]; omega
    have hz := zeroB_of s h
    go_enter Try.func55, Try.ntmps55
    go_wp2_with (first
      | (go_at_call 66; refine (specZero_any _ _).mono ?_; rintro e w2 ⟨rfl, hb2⟩; rw [hz]))
    go_ret
    exact ⟨by rw [HE.out]; rfl, hb2⟩
  · have HE : Hid (wordB s = ⟨#[]⟩) := Lib.hid (if_neg h)
    have hlt : 8 < s.size := by omega
    go_enter Try.func55, Try.ntmps55
    go_wp2
    go_ret
    exact ⟨by rw [HE.out]; rfl, Below.refl _ _⟩

end Go.Proofs.Ytmkchilhnmkhkab
namespace Go.Proofs.Ytmkchilhnmkhkab
open Go.RowKit Go.Proofs.Ytmkchilhnmkhkab.Parts Go.Proofs.Ytmkchilhnmkhkab.Hexa Go.Proofs.Ytmkchilhnmkhkab.Byt

theorem name_all {s : ByteArray} (hl : 1 ≤ s.size ∧ s.size ≤ 7) (h : ∀ j (hj : j < s.size), NameC s[j]) : NameR s := by
  refine ⟨hl, fun b hb => ?_⟩
  obtain ⟨j, hj, rfl⟩ := List.getElem_of_mem hb
  exact h j (by simpa using hj)
theorem name_at {s : ByteArray} (h : NameR s) (j : Nat) (hj : j < s.size) : NameC s[j] := by
  refine h.2 _ ?_
  have hj' : j < s.data.toList.length := by simpa using hj
  exact List.getElem_mem hj'

set_option maxRecDepth 100000 in
set_option maxHeartbeats 1000000 in
theorem specName_any (s : ByteArray) (w : World) (hs : s.size ≤ 2000000) :
    Calls Try.prog 54 #[.string s] w fun e w' => e = .returned (.bool (nameB s)) ∧ w' = w := by
  go_enter Try.func54, Try.ntmps54
  go_wp2
  go_loop [3] (fun i => ∃ k : Nat, k ≤ s.size ∧ i = .int .i64 k ∧ Hid (∀ j (hj : j < s.size), j < k → NameC s[j])) (fun i => s.size - (intOf i).toNat)
  case atStart => exact ⟨0, Nat.zero_le _, rfl, Lib.hid (fun j hj h => by omega)⟩
  case round =>
    obtain ⟨k, hk, rfl, HA⟩ := hrel
    by_cases hlt : k < s.size
    · obtain ⟨b, hb⟩ : ∃ b, s[k]'hlt = b := ⟨_, rfl⟩
      have hb255 := b.toNat_lt
      have HB := Lib.hid hb
      by_cases h1 : 97 ≤ (b.toNat : Int) ∧ (b.toNat : Int) ≤ 122
      · have HR := Lib.hid h1
        have HA2 : Hid (∀ j (hj : j < s.size), j < k + 1 → NameC s[j]) := Lib.hid (fun j hj h => by
          by_cases e : j = k
          · subst e; rw [HB.out]; exact .inl (by omega)
          · exact HA.out j hj (by omega))
        clear h1
        go_wp2_with ((with_reducible refine (range_yes _ HR.out).mono ?_); rintro e w1 ⟨rfl, rfl⟩)
        go_round
        case rel => exact ⟨k + 1, by omega, by go_num, HA2⟩
        case measure => (simp [intOf]; try omega)
      · by_cases h2 : 48 ≤ (b.toNat : Int) ∧ (b.toNat : Int) ≤ 57
        · have HR := Lib.hid h1
          have HR2 := Lib.hid h2
          have HA2 : Hid (∀ j (hj : j < s.size), j < k + 1 → NameC s[j]) := Lib.hid (fun j hj h => by
            by_cases e : j = k
            · subst e; rw [HB.out]; exact .inr (by omega)
            · exact HA.out j hj (by omega))
          clear h1 h2
          go_wp2_with (first | ((with_reducible refine (range_no _ HR.out).mono ?_); rintro e w1 ⟨rfl, rfl⟩) | ((with_reducible refine (range_yes _ HR2.out).mono ?_); rintro e w1 ⟨rfl, rfl⟩))
          go_round
          case rel => exact ⟨k + 1, by omega, by go_num, HA2⟩
          case measure => (simp [intOf]; try omega)
        · have HR := Lib.hid h1
          have HR2 := Lib.hid h2
          have HN : Hid (nameB s = false) := Lib.hid (nameB_no (fun h => by
            have h3 := name_at h k hlt
            rw [hb] at h3
            rcases h3 with h4 | h4
            · exact h1 (by omega)
            · exact h2 (by omega)))
          clear h1 h2
          go_wp2_with (first | ((with_reducible refine (range_no _ HR.out).mono ?_); rintro e w1 ⟨rfl, rfl⟩) | ((with_reducible refine (range_no _ HR2.out).mono ?_); rintro e w1 ⟨rfl, rfl⟩))
          go_ret
          exact ⟨by rw [HN.out]; rfl, rfl⟩
    · obtain rfl : k = s.size := by omega
      go_wp2_with fail
      refine (range_any _ _ _ _).mono ?_
      rintro e w1 ⟨rfl, rfl⟩
      have HN : Hid (decide ((1 : Int) ≤ (s.size : Int) ∧ (s.size : Int) ≤ 7) = nameB s) := Lib.hid (by
        by_cases hl : 1 ≤ s.size ∧ s.size ≤ 7
        · rw [nameB_yes (name_all hl (fun j hj => HA.out j hj hj))]; exact decide_eq_true (by omega)
        · rw [nameB_no (fun h => hl h.1)]; exact decide_eq_false (by omega))
      rw [HN.out]
      go_wp2
      go_ret
      exact ⟨rfl, rfl⟩

theorem specPages_any (n : Int) (w : World) (h0 : -9223372036854775808 ≤ n) (h1 : n ≤ 9223372036854775807) : Calls Try.prog 38 #[.int .i64 n] w fun e w' => e = .returned (.int .i64 (pagesZ n)) ∧ w' = w := by
  by_cases h : n ≤ 0
  · have HE : Hid (pagesZ n = 0) := Lib.hid (if_pos h)
    go_enter Try.func38, Try.ntmps38
    go_wp2
    go_ret
    exact ⟨by rw [HE.out]; rfl, rfl⟩
  · have HE : Hid (pagesZ n = (n - 1) / 32 + 1) := Lib.hid (if_neg h)
    have hp : 1 ≤ n := by omega
    have hd : (n - 1) / 32 ≤ 288230376151711743 := by omega
    have hd0 : 0 ≤ (n - 1) / 32 := by omega
    go_enter Try.func38, Try.ntmps38
    go_wp2
    go_ret
    exact ⟨by rw [HE.out]; rfl, rfl⟩

def SaysT (s : ByteArray) (w : World) (e : Ending) (w' : World) : Prop := e = .returned (.string s) ∧ Below w.heap.size w w'
set_option maxRecDepth 100000 in
set_option maxHeartbeats 1000000 in
theorem specRecWord_no (p q : Int) (m : ByteArray) (w : World) (_hm : m.size ≤ 2000000) (h : ¬ RecOk ⟨p, q, m⟩) :
    Calls Try.prog 39 #[.agg #[.int .i64 p, .int .i64 q, .string m]] w (SaysT ⟨#[]⟩ w) := by
  by_cases h0 : 1 ≤ p ∧ p ≤ 12
  · have H0 := Lib.hid h0
    by_cases h1 : 1 ≤ q ∧ q ≤ 16777215
    · have H1 := Lib.hid h1
      have h2 : ¬ m.size = 4 := fun e => h ⟨h0, h1, e⟩
      have e8 : ((m.size : Int) == 4) = false := by simp; omega
      have e9 : ((m.size : Int) != 4) = true := by simp; omega
      clear h0 h1 h
      go_enter Try.func39, Try.ntmps39
      go_wp2_with (first | ((with_reducible refine (range_yes _ H0.out).mono ?_); rintro e w1 ⟨rfl, rfl⟩) | ((with_reducible refine (range_yes _ H1.out).mono ?_); rintro e w1 ⟨rfl, rfl⟩))
      go_ret
      exact ⟨rfl, below_bk w _⟩
    · have H1 := Lib.hid h1
      clear h0 h1 h
      go_enter Try.func39, Try.ntmps39
      go_wp2_with (first | ((with_reducible refine (range_yes _ H0.out).mono ?_); rintro e w1 ⟨rfl, rfl⟩) | ((with_reducible refine (range_no _ H1.out).mono ?_); rintro e w1 ⟨rfl, rfl⟩))
      go_ret
      exact ⟨rfl, below_bk w _⟩
  · have H0 := Lib.hid h0
    clear h0 h
    go_enter Try.func39, Try.ntmps39
    go_wp2_with ((with_reducible refine (range_no _ H0.out).mono ?_); rintro e w1 ⟨rfl, rfl⟩)
    go_ret
    exact ⟨rfl, below_bk w _⟩

set_option maxRecDepth 100000 in
set_option maxHeartbeats 1000000 in
theorem specRecWord_yes (p q : Int) (m : ByteArray) (w : World) (h : RecOk ⟨p, q, m⟩) :
    Calls Try.prog 39 #[.agg #[.int .i64 p, .int .i64 q, .string m]] w (SaysT (recWordB ⟨p, q, m⟩) w) := by
  have HE := Lib.hid (recWordB_yes h)
  obtain ⟨h0, h1, h2⟩ := h
  have H0 : Hid (1 ≤ p ∧ p ≤ 12) := Lib.hid h0
  have H1 : Hid (1 ≤ q ∧ q ≤ 16777215) := Lib.hid h1
  have hm4 : m.size = 4 := h2
  have e8 : ((m.size : Int) == 4) = true := by simp; omega
  have e9 : ((m.size : Int) != 4) = false := by simp; omega
  have T0 := Lib.hid (Bk.alloc w #[.int .i64 p, .int .i64 q, .string m] 70)
  have B0 := Lib.hid (below_bk w (.cells #[.int .i64 p, .int .i64 q, .string m] 70))
  have hA : (numTextB p 1).size = 1 := numText_size (k := 1) (by omega) (by have := H0.out.1; omega) (by have := H0.out.2; omega)
  have hB : (numTextB q 3).size = 3 := numText_size (k := 3) (by omega) (by have := H1.out.1; omega) (by have := H1.out.2; omega)
  obtain ⟨A, hAe⟩ : ∃ A, numTextB p 1 = A := ⟨_, rfl⟩
  obtain ⟨D, hDe⟩ : ∃ D, numTextB q 3 = D := ⟨_, rfl⟩
  have HA := Lib.hid hAe
  have HD := Lib.hid hDe
  rw [hAe] at hA
  rw [hDe] at hB
  have hA1 : A.size ≤ 1 := by omega
  have hB1 : D.size ≤ 3 := by omega
  have hAD : ¬ (9223372036854775807 < A.size + D.size) := by omega
  have hADm : ¬ (9223372036854775807 < A.size + D.size + 4) := by omega
  clear h0 h1 h2 hAe hDe hA hB
  go_enter Try.func39, Try.ntmps39
  go_wp2_with (first | ((with_reducible refine (range_yes _ H0.out).mono ?_); rintro e w1 ⟨rfl, rfl⟩) | ((with_reducible refine (range_yes _ H1.out).mono ?_); rintro e w1 ⟨rfl, rfl⟩))
  have T0d := Lib.hid T0.out.drew
  have B0d : Hid (Below w.heap.size w (w.alloc (.cells #[.int .i64 p, .int .i64 q, .string m] 70)).drew) := Lib.hid B0.out.drew
  go_region_held3 (fun w' => w'.cell? ⟨w.heap.size, 0, none⟩ = some (.int .i64 p) ∧ w'.cell? ⟨w.heap.size, 1, none⟩ = some (.int .i64 q) ∧ w'.cell? ⟨w.heap.size, 2, none⟩ = some (.string m))
    (first
      | exact ⟨T0d.out.cell rfl, T0d.out.cell rfl, T0d.out.cell rfl⟩
      | exact ⟨T1.out.cell rfl, T1.out.cell rfl, T1.out.cell rfl⟩
      | exact ⟨T2.out.cell rfl, T2.out.cell rfl, T2.out.cell rfl⟩
      | go_keep)
    (first
      | (go_at_call 53; (with_reducible refine (specNum_any p 1 _ (by have := H0.out.2; omega)).mono ?_); rw [HA.out]; rintro e w1 ⟨rfl, hb⟩; have T1 := Lib.hid (T0d.out.later hb); have B1 : Hid (Below w.heap.size w w1) := Lib.hid (B0d.out.trans (hb.mono B0d.out.size)); clear hb)
      | (go_at_call 53; (with_reducible refine (specNum_any q 3 _ (by have := H1.out.2; omega)).mono ?_); rw [HD.out]; rintro e w2 ⟨rfl, hb⟩; have T2 := Lib.hid (T1.out.later hb); have B2 : Hid (Below w.heap.size w w2) := Lib.hid (B1.out.trans (hb.mono B1.out.size)); clear hb))
  go_wp2
  go_ret
  exact ⟨by rw [HE.out, HA.out, HD.out]; rfl, B2.out⟩
theorem specRecWord_any (p q : Int) (m : ByteArray) (w : World) (hm : m.size ≤ 2000000) :
    Calls Try.prog 39 #[.agg #[.int .i64 p, .int .i64 q, .string m]] w (SaysT (recWordB ⟨p, q, m⟩) w) := by
  by_cases h : RecOk ⟨p, q, m⟩
  · exact specRecWord_yes p q m w h
  · rw [recWordB_no h]; exact specRecWord_no p q m w hm h
end Go.Proofs.Ytmkchilhnmkhkab
namespace Go.Proofs.Ytmkchilhnmkhkab
open Go.RowKit

theorem text_full (x : ByteArray) (h : 0 < x.size) : (x.toList == []) = false := by
  apply beq_eq_false_iff_ne.2
  intro e
  have h1 : x.toList.length = x.size := by rw [Go.ByteArray.toList_eq]; simp
  rw [e] at h1
  simp at h1
  omega
theorem text_full' (x : ByteArray) (h : 0 < x.size) : ([] == x.toList) = false := by
  have h1 := text_full x h
  apply beq_eq_false_iff_ne.2
  intro e
  rw [← e] at h1
  simp at h1
theorem text_ne {x y : ByteArray} (h : ¬ x = y) : ¬ (x.toList = y.toList) := by
  intro e
  apply h
  rw [Go.ByteArray.toList_eq, Go.ByteArray.toList_eq] at e
  cases x; cases y
  simp at e
  rw [e]
theorem text_neB {x y : ByteArray} (h : ¬ x = y) : (x.toList == y.toList) = false := beq_eq_false_iff_ne.2 (text_ne h)
end Go.Proofs.Ytmkchilhnmkhkab
namespace Go.Proofs.Ytmkchilhnmkhkab
open Go.RowKit Go.Proofs.Ytmkchilhnmkhkab.Parts Go.Proofs.Ytmkchilhnmkhkab.Hexa Go.Proofs.Ytmkchilhnmkhkab.Byt

set_option maxRecDepth 100000 in
set_option maxHeartbeats 1000000 in
theorem specEntryWord_no (p : Int) (m : ByteArray) (w : World) (hm : m.size ≤ 2000000) (h : ¬ EntryOk ⟨p, m⟩) :
    Calls Try.prog 40 #[.agg #[.int .i64 p, .string m]] w (SaysT ⟨#[]⟩ w) := by
  by_cases h0 : 1 ≤ p ∧ p ≤ 5
  · have H0 := Lib.hid h0
    have h2 : ¬ NameR m := fun e => h ⟨h0, e⟩
    have HN := Lib.hid (nameB_no h2)
    clear h0 h h2
    go_enter Try.func40, Try.ntmps40
    go_wp2_with (first | ((with_reducible refine (range_yes _ H0.out).mono ?_); rintro e w1 ⟨rfl, rfl⟩) | (go_at_call 54; refine (specName_any m _ hm).mono ?_; rw [HN.out]; rintro e w1 ⟨rfl, rfl⟩))
    go_ret
    exact ⟨rfl, below_bk w _⟩
  · have H0 := Lib.hid h0
    clear h0 h
    go_enter Try.func40, Try.ntmps40
    go_wp2_with ((with_reducible refine (range_no _ H0.out).mono ?_); rintro e w1 ⟨rfl, rfl⟩)
    go_ret
    exact ⟨rfl, below_bk w _⟩

set_option maxRecDepth 100000 in
set_option maxHeartbeats 1000000 in
theorem specEntryWord_yes (p : Int) (m : ByteArray) (w : World) (h : EntryOk ⟨p, m⟩) :
    Calls Try.prog 40 #[.agg #[.int .i64 p, .string m]] w (SaysT (entryWordB ⟨p, m⟩) w) := by
  have HE := Lib.hid (entryWordB_yes h)
  obtain ⟨h0, h1⟩ := h
  have H0 : Hid (1 ≤ p ∧ p ≤ 5) := Lib.hid h0
  have HN := Lib.hid (nameB_yes h1)
  have hm : m.size ≤ 7 := h1.1.2
  have T0 := Lib.hid (Bk.alloc w #[.int .i64 p, .string m] 57)
  have B0 := Lib.hid (below_bk w (.cells #[.int .i64 p, .string m] 57))
  have hA : (numTextB p 1).size = 1 := numText_size (k := 1) (by omega) (by have := H0.out.1; omega) (by have := H0.out.2; omega)
  obtain ⟨A, hAe⟩ : ∃ A, numTextB p 1 = A := ⟨_, rfl⟩
  have HA := Lib.hid hAe
  rw [hAe] at hA
  have hA1 : ¬ (9223372036854775807 < A.size + m.size) := by omega
  have T0d := Lib.hid T0.out.drew
  have B0d : Hid (Below w.heap.size w (w.alloc (.cells #[.int .i64 p, .string m] 57)).drew) := Lib.hid B0.out.drew
  clear h0 h1 hAe hA
  go_enter Try.func40, Try.ntmps40
  go_wp2_with (first | ((with_reducible refine (range_yes _ H0.out).mono ?_); rintro e w1 ⟨rfl, rfl⟩) | (go_at_call 54; refine (specName_any m _ (by omega)).mono ?_; rw [HN.out]; rintro e w1 ⟨rfl, rfl⟩))
  go_region_held3 (fun w' => w'.cell? ⟨w.heap.size, 0, none⟩ = some (.int .i64 p) ∧ w'.cell? ⟨w.heap.size, 1, none⟩ = some (.string m))
    (first
      | exact ⟨T0d.out.cell rfl, T0d.out.cell rfl⟩
      | exact ⟨T1.out.cell rfl, T1.out.cell rfl⟩
      | exact ⟨T2.out.cell rfl, T2.out.cell rfl⟩
      | go_keep)
    (first
      | (go_at_call 53; (with_reducible refine (specNum_any p 1 _ (by have := H0.out.2; omega)).mono ?_); rw [HA.out]; rintro e w1 ⟨rfl, hb⟩; have T1 := Lib.hid (T0d.out.later hb); have B1 : Hid (Below w.heap.size w w1) := Lib.hid (B0d.out.trans (hb.mono B0d.out.size)); clear hb)
      | (go_at_call 55; (with_reducible refine (specWord_any (A ++ m) _).mono ?_); rintro e w2 ⟨rfl, hb⟩; have T2 := Lib.hid (T1.out.later hb); have B2 : Hid (Below w.heap.size w w2) := Lib.hid (B1.out.trans (hb.mono B1.out.size)); clear hb))
  go_wp2
  go_ret
  exact ⟨by rw [HE.out, HA.out]; rfl, B2.out⟩
theorem specEntryWord_any (p : Int) (m : ByteArray) (w : World) (hm : m.size ≤ 2000000) :
    Calls Try.prog 40 #[.agg #[.int .i64 p, .string m]] w (SaysT (entryWordB ⟨p, m⟩) w) := by
  by_cases h : EntryOk ⟨p, m⟩
  · exact specEntryWord_yes p m w h
  · rw [entryWordB_no h]; exact specEntryWord_no p m w hm h
end Go.Proofs.Ytmkchilhnmkhkab
namespace Go.Proofs.Ytmkchilhnmkhkab
open Go.RowKit Go.Proofs.Ytmkchilhnmkhkab.Parts Go.Proofs.Ytmkchilhnmkhkab.Hexa Go.Proofs.Ytmkchilhnmkhkab.Byt

abbrev inoCs (kd sz gn : Int) (key : ByteArray) (aR : Option Addr) (nR cR : Nat) (aE : Option Addr) (nE cE : Nat) : Array Value :=
  #[.int .i64 kd, .int .i64 sz, .int .i64 gn, .string key, .slice aR nR cR, .slice aE nE cE]
abbrev inoObj (kd sz gn : Int) (key : ByteArray) (aR : Option Addr) (nR cR : Nat) (aE : Option Addr) (nE cE : Nat) : Obj :=
  .cells #[.int .i64 kd, .int .i64 sz, .int .i64 gn, .string key, .slice aR nR cR, .slice aE nE cE] 54

theorem text_nothing {x : ByteArray} (h : x.size = 0) : x = ⟨#[]⟩ := by
  cases x with
  | mk d => rw [show d = #[] from Array.eq_empty_of_size_eq_zero h]
theorem bool_no {b : Bool} {p : Prop} (hb : b = true ↔ p) (h : ¬ p) : b = false := by
  cases b
  · rfl
  · exact absurd (hb.1 rfl) h

section
variable (kd sz gn : Int) (key : ByteArray) (aR : Option Addr) (nR cR : Nat) (aE : Option Addr) (nE cE : Nat) (w : World)

set_option maxRecDepth 100000 in
set_option maxHeartbeats 1000000 in
theorem specIno_gen (h : ¬ (0 ≤ gn ∧ gn ≤ 65535)) :
    Calls Try.prog 25 #[.agg #[.int .i64 kd, .int .i64 sz, .int .i64 gn, .string key, .slice aR nR cR, .slice aE nE cE]] w (SaysB false w) := by
  have H0 := Lib.hid h
  have B0 := Lib.hid (below_bk w (inoObj kd sz gn key aR nR cR aE nE cE))
  clear h
  go_enter Try.func25, Try.ntmps25
  go_wp2_with ((with_reducible refine (range_no _ H0.out).mono ?_); rintro e w1 ⟨rfl, rfl⟩)
  go_ret
  exact ⟨rfl, B0.out⟩

set_option maxRecDepth 100000 in
set_option maxHeartbeats 1000000 in
theorem specIno_other (h : 0 ≤ gn ∧ gn ≤ 65535) (h0 : ¬ kd = 0) (h1 : ¬ kd = 1) (h2 : ¬ kd = 2) :
    Calls Try.prog 25 #[.agg #[.int .i64 kd, .int .i64 sz, .int .i64 gn, .string key, .slice aR nR cR, .slice aE nE cE]] w (SaysB false w) := by
  have H0 := Lib.hid h
  have B0 := Lib.hid (below_bk w (inoObj kd sz gn key aR nR cR aE nE cE))
  clear h
  go_enter Try.func25, Try.ntmps25
  go_wp2_with ((with_reducible refine (range_yes _ H0.out).mono ?_); rintro e w1 ⟨rfl, rfl⟩)
  go_ret
  exact ⟨rfl, B0.out⟩

set_option maxRecDepth 100000 in
set_option maxHeartbeats 1000000 in
theorem specIno_free (h : 0 ≤ gn ∧ gn ≤ 65535) (b : Bool) (hb : b = true ↔ (sz = 0 ∧ key.size = 0 ∧ nR = 0 ∧ nE = 0)) :
    Calls Try.prog 25 #[.agg #[.int .i64 0, .int .i64 sz, .int .i64 gn, .string key, .slice aR nR cR, .slice aE nE cE]] w (SaysB b w) := by
  have H0 := Lib.hid h
  have B0 := Lib.hid (below_bk w (inoObj 0 sz gn key aR nR cR aE nE cE))
  clear h
  by_cases h1 : sz = 0
  · subst h1
    by_cases h2 : key.size = 0
    · obtain rfl : key = ⟨#[]⟩ := text_nothing h2
      by_cases h3 : nR = 0
      · subst h3
        by_cases h4 : nE = 0
        · subst h4
          obtain rfl : b = true := hb.2 ⟨rfl, rfl, rfl, rfl⟩
          clear hb
          go_enter Try.func25, Try.ntmps25
          go_wp2_with ((with_reducible refine (range_yes _ H0.out).mono ?_); rintro e w1 ⟨rfl, rfl⟩)
          go_ret
          exact ⟨rfl, B0.out⟩
        · obtain rfl : b = false := bool_no hb (fun x => h4 x.2.2.2)
          have e4 : ((nE : Int) == 0) = false := by simp; omega
          clear hb
          go_enter Try.func25, Try.ntmps25
          go_wp2_with ((with_reducible refine (range_yes _ H0.out).mono ?_); rintro e w1 ⟨rfl, rfl⟩)
          go_ret
          exact ⟨rfl, B0.out⟩
      · obtain rfl : b = false := bool_no hb (fun x => h3 x.2.2.1)
        have e4 : ((nR : Int) == 0) = false := by simp; omega
        clear hb
        go_enter Try.func25, Try.ntmps25
        go_wp2_with ((with_reducible refine (range_yes _ H0.out).mono ?_); rintro e w1 ⟨rfl, rfl⟩)
        go_ret
        exact ⟨rfl, B0.out⟩
    · obtain rfl : b = false := bool_no hb (fun x => h2 x.2.1)
      have e4 : (key.toList == []) = false := text_full key (by omega)
      clear hb
      go_enter Try.func25, Try.ntmps25
      go_wp2_with ((with_reducible refine (range_yes _ H0.out).mono ?_); rintro e w1 ⟨rfl, rfl⟩)
      go_ret
      exact ⟨rfl, B0.out⟩
  · obtain rfl : b = false := bool_no hb (fun x => h1 x.1)
    clear hb
    go_enter Try.func25, Try.ntmps25
    go_wp2_with ((with_reducible refine (range_yes _ H0.out).mono ?_); rintro e w1 ⟨rfl, rfl⟩)
    go_ret
    exact ⟨rfl, B0.out⟩
end
end Go.Proofs.Ytmkchilhnmkhkab
namespace Go.Proofs.Ytmkchilhnmkhkab
open Go.RowKit Go.Proofs.Ytmkchilhnmkhkab.Parts Go.Proofs.Ytmkchilhnmkhkab.Hexa Go.Proofs.Ytmkchilhnmkhkab.Byt

section
variable (sz gn : Int) (key : ByteArray) (aR : Option Addr) (nR cR : Nat) (aE : Option Addr) (nE cE : Nat) (w : World)

set_option maxRecDepth 100000 in
set_option maxHeartbeats 1000000 in
theorem specIno_fileNo (h : 0 ≤ gn ∧ gn ≤ 65535) (hz : -9223372036854775808 ≤ sz ∧ sz ≤ 9223372036854775807) (hno : ¬ ((0 ≤ sz ∧ sz ≤ 128) ∧ key.size = 8 ∧ (nR : Int) = pagesZ sz ∧ nE = 0)) :
    Calls Try.prog 25 #[.agg #[.int .i64 1, .int .i64 sz, .int .i64 gn, .string key, .slice aR nR cR, .slice aE nE cE]] w (SaysB false w) := by
  have H0 := Lib.hid h
  have HZ := Lib.hid hz
  have B0 := Lib.hid (below_bk w (inoObj 1 sz gn key aR nR cR aE nE cE))
  clear h hz
  by_cases h1 : 0 ≤ sz ∧ sz ≤ 128
  · have H1 := Lib.hid h1
    by_cases h2 : key.size = 8
    · have e2 : ((key.size : Int) != 8) = false := by simp; omega
      by_cases h3 : (nR : Int) = pagesZ sz
      · have h4 : ¬ nE = 0 := fun e => hno ⟨h1, h2, h3, e⟩
        have e4 : (0 : Int) < (nE : Int) := by omega
        have HQ : Hid (∀ W : World, Calls Try.prog 38 #[.int .i64 sz] W fun e w' => e = .returned (.int .i64 nR) ∧ w' = W) := Lib.hid (fun W => by
          rw [h3]; exact specPages_any sz W HZ.out.1 HZ.out.2)
        clear hno h1 h3
        go_enter Try.func25, Try.ntmps25
        go_wp2_with ((with_reducible refine (range_yes _ H0.out).mono ?_); rintro e w1 ⟨rfl, rfl⟩)
        go_quiet (first
          | (go_at_call 22; exact Calls.quiet_of_same (range_yes _ H1.out))
          | (go_at_call 38; exact Calls.quiet_of_same (HQ.out _)))
        go_wp2
        go_ret
        exact ⟨rfl, below_drewsN B0.out _⟩
      · obtain ⟨p, hp⟩ : ∃ p, pagesZ sz = p := ⟨_, rfl⟩
        have HQ : Hid (∀ W : World, Calls Try.prog 38 #[.int .i64 sz] W fun e w' => e = .returned (.int .i64 p) ∧ w' = W) := Lib.hid (fun W => by
          rw [← hp]; exact specPages_any sz W HZ.out.1 HZ.out.2)
        rw [hp] at h3
        have e3 : ((nR : Int) != p) = true := by simpa using h3
        clear hno h1 h3 hp
        go_enter Try.func25, Try.ntmps25
        go_wp2_with ((with_reducible refine (range_yes _ H0.out).mono ?_); rintro e w1 ⟨rfl, rfl⟩)
        go_quiet (first
          | (go_at_call 22; exact Calls.quiet_of_same (range_yes _ H1.out))
          | (go_at_call 38; exact Calls.quiet_of_same (HQ.out _)))
        go_wp2
        go_ret
        exact ⟨rfl, below_drewsN B0.out _⟩
    · have e2 : ((key.size : Int) != 8) = true := by have : ¬ ((key.size : Int) = 8) := by omega
                                                     simpa using this
      clear hno h1 h2
      go_enter Try.func25, Try.ntmps25
      go_wp2_with ((with_reducible refine (range_yes _ H0.out).mono ?_); rintro e w1 ⟨rfl, rfl⟩)
      go_quiet ((go_at_call 22; exact Calls.quiet_of_same (range_yes _ H1.out)))
      go_wp2
      go_ret
      exact ⟨rfl, below_drewsN B0.out _⟩
  · have H1 := Lib.hid h1
    clear hno h1
    go_enter Try.func25, Try.ntmps25
    go_wp2_with ((with_reducible refine (range_yes _ H0.out).mono ?_); rintro e w1 ⟨rfl, rfl⟩)
    go_quiet ((go_at_call 22; exact Calls.quiet_of_same (range_no _ H1.out)))
    go_wp2
    go_ret
    exact ⟨rfl, below_drewsN B0.out _⟩
end
end Go.Proofs.Ytmkchilhnmkhkab
namespace Go.Proofs.Ytmkchilhnmkhkab
open Go.RowKit Go.Proofs.Ytmkchilhnmkhkab.Parts Go.Proofs.Ytmkchilhnmkhkab.Hexa Go.Proofs.Ytmkchilhnmkhkab.Byt

theorem Bk.under {w w' : World} {b B : Nat} {cs : Array Value} {t : TypeId} (h : Bk w b cs t) (hb : Below B w w') (hB : b < B) : Bk w' b cs t := (hb.block b hB).trans h
theorem below_on {B : Nat} {w w1 w2 : World} (h : Below B w w1) (hB : B ≤ w.heap.size) (h2 : Below w1.heap.size w1 w2) : Below B w w2 := h.trans (h2.mono (Nat.le_trans hB h.size))

theorem held_under3 {w w' : World} {p q r : Addr} {x y z : Value} (h : w.cell? p = some x ∧ w.cell? q = some y ∧ w.cell? r = some z) (hb : Below w.heap.size w w') (hp : p.block < w.heap.size) (hq : q.block < w.heap.size) (hr : r.block < w.heap.size) : w'.cell? p = some x ∧ w'.cell? q = some y ∧ w'.cell? r = some z :=
  ⟨(hb.cell hp).trans h.1, (hb.cell hq).trans h.2.1, (hb.cell hr).trans h.2.2⟩

section
variable (sz gn : Int) (key : ByteArray) (aR : Option Addr) (nR cR : Nat) (aE : Option Addr) (cE : Nat) (w : World) (R : List RecR)

set_option maxRecDepth 100000 in
set_option maxHeartbeats 2000000 in
theorem specIno_file (h : 0 ≤ gn ∧ gn ≤ 65535) (h1 : 0 ≤ sz ∧ sz ≤ 128) (h2 : key.size = 8) (h3 : (nR : Int) = pagesZ sz) (hs : SrcRec w aR nR R) (hf : FitRec R nR 2000000) (b : Bool) (hb : b = true ↔ RecsOk R nR) :
    Calls Try.prog 25 #[.agg #[.int .i64 1, .int .i64 sz, .int .i64 gn, .string key, .slice aR nR cR, .slice aE 0 cE]] w (SaysB b w) := by
  have H0 := Lib.hid h
  have H1 := Lib.hid h1
  have HS := Lib.hid hs
  have HF := Lib.hid hf
  have HG := Lib.hid hb
  have B0 := Lib.hid (below_bk w (inoObj 1 sz gn key aR nR cR aE 0 cE))
  have K0 := Lib.hid (Bk.alloc w (inoCs 1 sz gn key aR nR cR aE 0 cE) 54)
  have N0 : Hid ((w.alloc (inoObj 1 sz gn key aR nR cR aE 0 cE)).heap.size = w.heap.size + 1) := Lib.hid (by simp)
  have e2 : ((key.size : Int) != 8) = false := by simp; omega
  have hn4 : nR ≤ 4 := by unfold pagesZ at h3; split at h3 <;> omega
  have HQ : Hid (∀ W : World, Calls Try.prog 38 #[.int .i64 sz] W fun e w' => e = .returned (.int .i64 nR) ∧ w' = W) := Lib.hid (fun W => by
    rw [h3]; exact specPages_any sz W (by omega) (by omega))
  clear h h1 h2 h3 hs hf hb
  go_enter Try.func25, Try.ntmps25
  go_wp2_with ((with_reducible refine (range_yes _ H0.out).mono ?_); rintro e w1 ⟨rfl, rfl⟩)
  go_quiet (first
    | (go_at_call 22; exact Calls.quiet_of_same (range_yes _ H1.out))
    | (go_at_call 38; exact Calls.quiet_of_same (HQ.out _)))
  go_wp2
  go_loopw [3] (fun iv wr => ∃ k : Nat, k ≤ nR ∧ iv = .int .i64 k ∧ Hid (RecsOk R k) ∧ Hid (Below (w.heap.size + 1) (w.alloc (inoObj 1 sz gn key aR nR cR aE 0 cE)) wr)) (fun iv _ => nR - (intOf iv).toNat)
  case atStart => exact ⟨0, Nat.zero_le _, rfl, Lib.hid (fun j hj => by omega), Lib.hid (below_drewsN (Below.refl _ _) _)⟩
  case round =>
    obtain ⟨k, hk, rfl, HA, HB⟩ := hrel
    have BW : Hid (Below w.heap.size w wr) := Lib.hid (B0.out.trans (HB.out.mono (by omega)))
    have q4 := (K0.out.under HB.out (Nat.lt_succ_self _)).cell (j := 4) rfl
    by_cases hlt : k < nR
    · obtain ⟨g, off, ha, hg, d0, d1, d2⟩ := srcRec_later HS.out BW.out (Nat.le_refl _) k hlt
      obtain ⟨⟨p, q, m⟩, hx⟩ : ∃ x, R.getD k default = x := ⟨_, rfl⟩
      have hm := HF.out k hlt
      rw [hx] at d0 d1 d2 hm
      simp only at d0 d1 d2 hm
      have HX := Lib.hid hx
      have HM := Lib.hid hm
      rw [ha] at q4
      clear hx hm ha
      by_cases i1 : RecOk ⟨p, q, m⟩
      · have hT8 := recWord_size i1
        have I1 := Lib.hid i1
        obtain ⟨T, hT⟩ : ∃ T, recWordB ⟨p, q, m⟩ = T := ⟨_, rfl⟩
        have HT := Lib.hid hT
        rw [hT] at hT8
        have e1 : (T.toList == []) = false := text_full T (by omega)
        clear i1 hT hT8
        go_wp2_with fail
        refine (specRecWord_any p q m _ HM.out).mono ?_
        rw [HT.out]
        rintro e w1 ⟨rfl, hb1⟩
        have B1 : Hid (Below (w.heap.size + 1) (w.alloc (inoObj 1 sz gn key aR nR cR aE 0 cE)) w1) := Lib.hid (below_on HB.out (by rw [N0.out]; exact Nat.le_refl _) hb1)
        clear hb1 q4 d0 d1 d2 BW HB
        go_wp2
        go_loopw [4] (fun iv wr => ∃ k2 : Nat, k2 ≤ k ∧ iv = .int .i64 k2 ∧ Hid (∀ j, j < k2 → (R.getD j default).f0 ≠ p) ∧ Hid (Below (w.heap.size + 1) (w.alloc (inoObj 1 sz gn key aR nR cR aE 0 cE)) wr)) (fun iv _ => k - (intOf iv).toNat)
        case atStart => exact ⟨0, Nat.zero_le _, rfl, Lib.hid (fun j hj => by omega), B1⟩
        case round =>
          obtain ⟨k2, hk2, rfl, HA2, HB⟩ := hrel
          have BW : Hid (Below w.heap.size w wr) := Lib.hid (B0.out.trans (HB.out.mono (by omega)))
          by_cases hlt2 : k2 < k
          · have q4 := (K0.out.under HB.out (Nat.lt_succ_self _)).cell (j := 4) rfl
            obtain ⟨g1, off1, ha1, hg1, d0, _, _⟩ := srcRec_later HS.out BW.out (Nat.le_refl _) k hlt
            obtain ⟨g2, off2, ha2, _, c0, _, _⟩ := srcRec_later HS.out BW.out (Nat.le_refl _) k2 (by omega)
            rw [ha1] at ha2 q4
            cases ha2
            clear ha1
            rw [HX.out] at d0
            obtain ⟨v, hv⟩ : ∃ v, (R.getD k2 default).f0 = v := ⟨_, rfl⟩
            have HV := Lib.hid hv
            rw [hv] at c0
            simp only at d0
            clear hv
            by_cases i2 : v = p
            · subst i2
              obtain rfl : b = false := bool_no HG.out (fun x => (x k hlt).2 k2 hlt2 (by rw [HV.out, HX.out]))
              go_wp2
              go_region
              go_wp2
              go_ret
              exact ⟨rfl, BW.out.drew⟩
            · have HA3 : Hid (∀ j, j < k2 + 1 → (R.getD j default).f0 ≠ p) := Lib.hid (fun j hj => by
                by_cases e : j = k2
                · subst e; rw [HV.out]; exact i2
                · exact HA2.out j (by omega))
              have i3 : (v == p) = false := by simpa using i2
              go_wp2
              go_region
              go_wp2
              go_roundw
              case rel => exact ⟨k2 + 1, by omega, by go_num, HA3, Lib.hid HB.out.drew⟩
              case measure => (simp [intOf]; try omega)
          · obtain rfl : k2 = k := by omega
            have HA3 : Hid (RecsOk R (k2 + 1)) := Lib.hid (recsOk_step HA.out (by rw [HX.out]; exact I1.out) (fun j hj => by rw [HX.out]; exact HA2.out j hj))
            go_wp2
            go_roundw
            case rel => exact ⟨k2 + 1, by omega, by go_num, HA3, HB⟩
            case measure => (simp [intOf]; try omega)
      · have HT := Lib.hid (recWordB_no i1)
        obtain rfl : b = false := bool_no HG.out (fun x => i1 (by have h9 := (x k hlt).1; rw [HX.out] at h9; exact h9))
        clear i1
        go_wp2_with fail
        refine (specRecWord_any p q m _ HM.out).mono ?_
        rw [HT.out]
        rintro e w1 ⟨rfl, hb1⟩
        have B1 : Hid (Below w.heap.size w w1) := Lib.hid (below_on BW.out (Nat.le_refl _) hb1)
        clear hb1
        go_wp2
        go_ret
        exact ⟨rfl, B1.out⟩
    · obtain rfl : k = nR := by omega
      obtain rfl : b = true := HG.out.2 HA.out
      go_wp2
      go_ret
      exact ⟨rfl, BW.out⟩
end
end Go.Proofs.Ytmkchilhnmkhkab
namespace Go.Proofs.Ytmkchilhnmkhkab
open Go.RowKit

/-- A world that has grown out of w: what lay there lies there unchanged. -/
structure GrownW (w : World) where
  wd : World
  grown : Below w.heap.size w wd
instance (w : World) : Nonempty (GrownW w) := ⟨⟨w, Below.refl _ w⟩⟩
theorem GrownW.cell {w : World} {p : Addr} {v : Value} (h : w.cell? p = some v) (hp : p.block < w.heap.size) (g : GrownW w) : g.wd.cell? p = some v := (g.grown.cell hp).trans h
theorem Calls.grown_of {P : Program} {f : FuncId} {args : Array Value} {w : World} {g : GrownW w} {v : Value}
    (h : Calls P f args g.wd fun e w' => e = .returned v ∧ Below g.wd.heap.size g.wd w') : Calls P f args g.wd fun e w'' => e = .returned v ∧ ∃ g' : GrownW w, w'' = g'.wd :=
  h.mono fun _ w' ⟨he, hb⟩ => ⟨he, ⟨w', g.grown.trans (hb.mono g.grown.size)⟩, rfl⟩
theorem Calls.grown_same {P : Program} {f : FuncId} {args : Array Value} {w : World} {g : GrownW w} {v : Value}
    (h : Calls P f args g.wd fun e w' => e = .returned v ∧ w' = g.wd) : Calls P f args g.wd fun e w'' => e = .returned v ∧ ∃ g' : GrownW w, w'' = g'.wd :=
  h.mono fun _ _ ⟨he, hw⟩ => ⟨he, g, hw⟩
theorem wp_region_grown {P : Program} {id : Nat} {Q : Exit → Act → World → Prop} {a : Act} {w : World} {l : List Oper} (hm : P.follows .mixedOrders = true) (hB : Region.lexB .any l.toArray = true)
    (h : wpQuiet P l.toArray (fun w' => ∃ g : GrownW w, w' = g.wd) (fun a' => ∀ w', (∃ g : GrownW w, w' = g.wd) → Q .normal a' w') l a) : (Code.region id l.toArray true).wp P Q a w :=
  wp_region_quiet (C := fun w' => ∃ g : GrownW w, w' = g.wd) hm hB ⟨⟨_, (Below.refl _ w).drew⟩, rfl⟩ (by simpa using h)
end Go.Proofs.Ytmkchilhnmkhkab
namespace Go.Proofs.Ytmkchilhnmkhkab
open Go.RowKit Go.Proofs.Ytmkchilhnmkhkab.Parts Go.Proofs.Ytmkchilhnmkhkab.Hexa Go.Proofs.Ytmkchilhnmkhkab.Byt

section
variable (sz gn : Int) (key : ByteArray) (aR : Option Addr) (nR cR : Nat) (aE : Option Addr) (nE cE : Nat) (w : World) (E : List EntryR)

set_option maxRecDepth 100000 in
set_option maxHeartbeats 1000000 in
theorem specIno_dirNo (h : 0 ≤ gn ∧ gn ≤ 65535) (hno : ¬ (sz = 0 ∧ key.size = 0 ∧ nR = 0 ∧ nE ≤ 6)) :
    Calls Try.prog 25 #[.agg #[.int .i64 2, .int .i64 sz, .int .i64 gn, .string key, .slice aR nR cR, .slice aE nE cE]] w (SaysB false w) := by
  have H0 := Lib.hid h
  have B0 := Lib.hid (below_bk w (inoObj 2 sz gn key aR nR cR aE nE cE))
  clear h
  by_cases h1 : sz = 0
  · subst h1
    by_cases h2 : key.size = 0
    · obtain rfl : key = ⟨#[]⟩ := text_nothing h2
      by_cases h3 : nR = 0
      · subst h3
        have h4 : (6 : Int) < (nE : Int) := by
          by_cases h5 : nE ≤ 6
          · exact absurd ⟨rfl, rfl, rfl, h5⟩ hno
          · omega
        clear hno
        go_enter Try.func25, Try.ntmps25
        go_wp2_with ((with_reducible refine (range_yes _ H0.out).mono ?_); rintro e w1 ⟨rfl, rfl⟩)
        go_ret
        exact ⟨rfl, B0.out⟩
      · have h4 : (0 : Int) < (nR : Int) := by omega
        clear hno
        go_enter Try.func25, Try.ntmps25
        go_wp2_with ((with_reducible refine (range_yes _ H0.out).mono ?_); rintro e w1 ⟨rfl, rfl⟩)
        go_ret
        exact ⟨rfl, B0.out⟩
    · have e4 : (key.toList == []) = false := text_full key (by omega)
      have e5 : (key.toList != []) = true := by simp only [bne, e4]; rfl
      clear hno
      go_enter Try.func25, Try.ntmps25
      go_wp2_with ((with_reducible refine (range_yes _ H0.out).mono ?_); rintro e w1 ⟨rfl, rfl⟩)
      go_ret
      exact ⟨rfl, B0.out⟩
  · have e4 : (sz != 0) = true := by simpa using h1
    clear hno
    go_enter Try.func25, Try.ntmps25
    go_wp2_with ((with_reducible refine (range_yes _ H0.out).mono ?_); rintro e w1 ⟨rfl, rfl⟩)
    go_ret
    exact ⟨rfl, B0.out⟩

set_option maxRecDepth 100000 in
set_option maxHeartbeats 2000000 in
theorem specIno_dir (h : 0 ≤ gn ∧ gn ≤ 65535) (h6 : nE ≤ 6) (hs : SrcEntry w aE nE E) (hf : FitEntry E nE 2000000) (b : Bool) (hb : b = true ↔ EntsOk E nE) :
    Calls Try.prog 25 #[.agg #[.int .i64 2, .int .i64 0, .int .i64 gn, .string ⟨#[]⟩, .slice aR 0 cR, .slice aE nE cE]] w (SaysB b w) := by
  have H0 := Lib.hid h
  have HS := Lib.hid hs
  have HF := Lib.hid hf
  have HG := Lib.hid hb
  have B0 := Lib.hid (below_bk w (inoObj 2 0 gn ⟨#[]⟩ aR 0 cR aE nE cE))
  have K0 := Lib.hid (Bk.alloc w (inoCs 2 0 gn ⟨#[]⟩ aR 0 cR aE nE cE) 54)
  have N0 : Hid ((w.alloc (inoObj 2 0 gn ⟨#[]⟩ aR 0 cR aE nE cE)).heap.size = w.heap.size + 1) := Lib.hid (by simp)
  clear h hs hf hb
  go_enter Try.func25, Try.ntmps25
  go_wp2_with ((with_reducible refine (range_yes _ H0.out).mono ?_); rintro e w1 ⟨rfl, rfl⟩)
  go_loopw [5] (fun iv wr => ∃ k : Nat, k ≤ nE ∧ iv = .int .i64 k ∧ Hid (EntsOk E k) ∧ Hid (Below (w.heap.size + 1) (w.alloc (inoObj 2 0 gn ⟨#[]⟩ aR 0 cR aE nE cE)) wr)) (fun iv _ => nE - (intOf iv).toNat)
  case atStart => exact ⟨0, Nat.zero_le _, rfl, Lib.hid (fun j hj => by omega), Lib.hid (Below.refl _ _)⟩
  case round =>
    obtain ⟨k, hk, rfl, HA, HB⟩ := hrel
    have BW : Hid (Below w.heap.size w wr) := Lib.hid (B0.out.trans (HB.out.mono (by omega)))
    have NW : Hid (w.heap.size + 1 ≤ wr.heap.size) := Lib.hid (by have := HB.out.size; rw [N0.out] at this; exact this)
    have q5 := (K0.out.under HB.out (Nat.lt_succ_self _)).cell (j := 5) rfl
    by_cases hlt : k < nE
    · obtain ⟨g, off, ha, hg, d0, d1⟩ := srcEntry_later HS.out BW.out (Nat.le_refl _) k hlt
      obtain ⟨⟨p, m⟩, hx⟩ : ∃ x, E.getD k default = x := ⟨_, rfl⟩
      have hm := HF.out k hlt
      rw [hx] at d0 d1 hm
      simp only at d0 d1 hm
      have HX := Lib.hid hx
      have HM := Lib.hid hm
      have hpr : Hid (∀ j, j < nE → ∃ v, wr.cell? ⟨g, off + j * 2 + 1, none⟩ = some (.string v) ∧ v = (E.getD j default).f1) := Lib.hid (fun j hj => by
        obtain ⟨g', off', ha', _, _, c1⟩ := srcEntry_later HS.out BW.out (Nat.le_refl _) j hj
        rw [ha] at ha'; cases ha'
        exact ⟨_, c1, rfl⟩)
      have hgw : Hid (g < wr.heap.size) := Lib.hid (by have := NW.out; omega)
      rw [ha] at q5
      clear hx hm ha
      by_cases i1 : EntryOk ⟨p, m⟩
      · have hT8 := entryWord_size i1
        have I1 := Lib.hid i1
        obtain ⟨T, hT⟩ : ∃ T, entryWordB ⟨p, m⟩ = T := ⟨_, rfl⟩
        have HT := Lib.hid hT
        rw [hT] at hT8
        have e1 : (T.toList == []) = false := text_full T (by omega)
        have HC : Hid (∀ W : World, Calls Try.prog 40 #[.agg #[.int .i64 p, .string m]] W fun e w' => e = .returned (.string T) ∧ Below W.heap.size W w') := Lib.hid (fun W => by
          have h9 := specEntryWord_any p m W HM.out
          rw [HT.out] at h9
          exact h9)
        clear i1 hT hT8
        match k with
        | 0 =>
          simp only [Nat.zero_mul, Nat.add_zero] at d0 d1
          have HA1 : Hid (EntsOk E 1) := Lib.hid (entsOk_step HA.out (by rw [HX.out]; exact I1.out) (fun h0 => by omega))
          have z5 := GrownW.cell q5 (by have := NW.out; change w.heap.size < wr.heap.size; omega)
          have z0 := GrownW.cell d0 hgw.out
          have z1 := GrownW.cell d1 hgw.out
          go_wp2
          refine wp_region_grown (by kernel_rfl) (by kernel_rfl) ?_
          repeat (go_big_quiet_step ((go_at_call 40; exact Calls.grown_of (HC.out _))))
          refine wpQuiet_nil ?_
          rintro _ ⟨gq, rfl⟩
          have B1 : Hid (Below (w.heap.size + 1) (w.alloc (inoObj 2 0 gn ⟨#[]⟩ aR 0 cR aE nE cE)) gq.wd) := Lib.hid (below_on HB.out (by rw [N0.out]; exact Nat.le_refl _) gq.grown)
          go_wp2
          go_roundw
          case rel => exact ⟨1, by omega, by go_num, HA1, B1⟩
          case measure => (simp [intOf]; try omega)
        | k + 1 =>
          obtain ⟨u, c1, hu⟩ := hpr.out k (by omega)
          have HU := Lib.hid hu
          clear hu
          have z5 := GrownW.cell q5 (by have := NW.out; change w.heap.size < wr.heap.size; omega)
          have z0 := GrownW.cell d0 hgw.out
          have z1 := GrownW.cell d1 hgw.out
          have z2 := GrownW.cell c1 hgw.out
          by_cases i2 : textLt u m = true
          · have HA1 : Hid (EntsOk E (k + 2)) := Lib.hid (entsOk_step HA.out (by rw [HX.out]; exact I1.out) (fun h0 => by rw [show k + 1 - 1 = k by omega, ← HU.out, HX.out]; exact i2))
            have i3 : Op.bytesLess u.toList m.toList = true := i2
            clear i2
            go_wp2
            refine wp_region_grown (by kernel_rfl) (by kernel_rfl) ?_
            repeat (go_big_quiet_step ((go_at_call 40; exact Calls.grown_of (HC.out _))))
            refine wpQuiet_nil ?_
            rintro _ ⟨gq, rfl⟩
            have B1 : Hid (Below (w.heap.size + 1) (w.alloc (inoObj 2 0 gn ⟨#[]⟩ aR 0 cR aE nE cE)) gq.wd) := Lib.hid (below_on HB.out (by rw [N0.out]; exact Nat.le_refl _) gq.grown)
            go_wp2
            go_roundw
            case rel => exact ⟨k + 2, by omega, by go_num, HA1, B1⟩
            case measure => (simp [intOf]; try omega)
          · obtain rfl : b = false := bool_no HG.out (fun x => i2 (by have h9 := (x (k + 1) hlt).2 (by omega); rw [show k + 1 - 1 = k by omega, ← HU.out, HX.out] at h9; exact h9))
            have i3 : Op.bytesLess u.toList m.toList = false := by simpa [textLt] using i2
            clear i2
            go_wp2
            refine wp_region_grown (by kernel_rfl) (by kernel_rfl) ?_
            repeat (go_big_quiet_step ((go_at_call 40; exact Calls.grown_of (HC.out _))))
            refine wpQuiet_nil ?_
            rintro _ ⟨gq, rfl⟩
            have B1 : Hid (Below (w.heap.size + 1) (w.alloc (inoObj 2 0 gn ⟨#[]⟩ aR 0 cR aE nE cE)) gq.wd) := Lib.hid (below_on HB.out (by rw [N0.out]; exact Nat.le_refl _) gq.grown)
            go_wp2
            go_ret
            exact ⟨rfl, B0.out.trans (B1.out.mono (by omega))⟩
      · have HT := Lib.hid (entryWordB_no i1)
        have HC : Hid (∀ W : World, Calls Try.prog 40 #[.agg #[.int .i64 p, .string m]] W fun e w' => e = .returned (.string ⟨#[]⟩) ∧ Below W.heap.size W w') := Lib.hid (fun W => by
          have h9 := specEntryWord_any p m W HM.out
          rw [HT.out] at h9
          exact h9)
        obtain rfl : b = false := bool_no HG.out (fun x => i1 (by have h9 := (x k hlt).1; rw [HX.out] at h9; exact h9))
        clear i1
        have z5 := GrownW.cell q5 (by have := NW.out; change w.heap.size < wr.heap.size; omega)
        have z0 := GrownW.cell d0 hgw.out
        have z1 := GrownW.cell d1 hgw.out
        go_wp2
        refine wp_region_grown (by kernel_rfl) (by kernel_rfl) ?_
        repeat (go_big_quiet_step ((go_at_call 40; exact Calls.grown_of (HC.out _))))
        refine wpQuiet_nil ?_
        rintro _ ⟨gq, rfl⟩
        have B1 : Hid (Below (w.heap.size + 1) (w.alloc (inoObj 2 0 gn ⟨#[]⟩ aR 0 cR aE nE cE)) gq.wd) := Lib.hid (below_on HB.out (by rw [N0.out]; exact Nat.le_refl _) gq.grown)
        go_wp2
        go_ret
        exact ⟨rfl, B0.out.trans (B1.out.mono (by omega))⟩
    · obtain rfl : k = nE := by omega
      obtain rfl : b = true := HG.out.2 HA.out
      go_wp2
      go_ret
      exact ⟨rfl, BW.out⟩
end
end Go.Proofs.Ytmkchilhnmkhkab
namespace Go.Proofs.Ytmkchilhnmkhkab
open Go.RowKit Go.Proofs.Ytmkchilhnmkhkab.Parts Go.Proofs.Ytmkchilhnmkhkab.Hexa Go.Proofs.Ytmkchilhnmkhkab.Byt

theorem inoB_iff {n : InoR} : inoB n = true ↔ InoOk n := by
  by_cases h : InoOk n
  · exact ⟨fun _ => h, fun _ => inoB_yes h⟩
  · exact ⟨fun e => by rw [inoB_no h] at e; exact absurd e (by decide), fun e => absurd e h⟩

theorem inoOk_free {sz gn : Int} {key : ByteArray} {R : List RecR} {E : List EntryR} (h : 0 ≤ gn ∧ gn ≤ 65535) : InoOk ⟨0, sz, gn, key, R, E⟩ ↔ (sz = 0 ∧ key.size = 0 ∧ R.length = 0 ∧ E.length = 0) := by
  constructor
  · rintro ⟨_, ⟨_, x⟩ | ⟨e, _⟩ | ⟨e, _⟩⟩
    · exact x
    · exact absurd (show (_ : Int) = _ from e) (by simp)
    · exact absurd (show (_ : Int) = _ from e) (by simp)
  · exact fun x => ⟨h, .inl ⟨rfl, x⟩⟩
theorem inoOk_file {sz gn : Int} {key : ByteArray} {R : List RecR} {E : List EntryR} (h : 0 ≤ gn ∧ gn ≤ 65535) :
    InoOk ⟨1, sz, gn, key, R, E⟩ ↔ ((0 ≤ sz ∧ sz ≤ 128) ∧ key.size = 8 ∧ (R.length : Int) = pagesZ sz ∧ E.length = 0 ∧ RecsOk R R.length) := by
  constructor
  · rintro ⟨_, ⟨e, _⟩ | ⟨_, x⟩ | ⟨e, _⟩⟩
    · exact absurd (show (_ : Int) = _ from e) (by simp)
    · exact x
    · exact absurd (show (_ : Int) = _ from e) (by simp)
  · exact fun x => ⟨h, .inr (.inl ⟨rfl, x⟩)⟩
theorem inoOk_dir {sz gn : Int} {key : ByteArray} {R : List RecR} {E : List EntryR} (h : 0 ≤ gn ∧ gn ≤ 65535) :
    InoOk ⟨2, sz, gn, key, R, E⟩ ↔ (sz = 0 ∧ key.size = 0 ∧ R.length = 0 ∧ E.length ≤ 6 ∧ EntsOk E E.length) := by
  constructor
  · rintro ⟨_, ⟨e, _⟩ | ⟨e, _⟩ | ⟨_, x⟩⟩
    · exact absurd (show (_ : Int) = _ from e) (by simp)
    · exact absurd (show (_ : Int) = _ from e) (by simp)
    · exact x
  · exact fun x => ⟨h, .inr (.inr ⟨rfl, x⟩)⟩

theorem specIno_any (kd sz gn : Int) (key : ByteArray) (aR : Option Addr) (nR cR : Nat) (aE : Option Addr) (nE cE : Nat) (w : World) (R : List RecR) (E : List EntryR)
    (hz : -9223372036854775808 ≤ sz ∧ sz ≤ 9223372036854775807) (hs : SrcRec w aR nR R) (hf : FitRec R nR 2000000) (hs' : SrcEntry w aE nE E) (hf' : FitEntry E nE 2000000) :
    Calls Try.prog 25 #[.agg #[.int .i64 kd, .int .i64 sz, .int .i64 gn, .string key, .slice aR nR cR, .slice aE nE cE]] w (SaysB (inoB ⟨kd, sz, gn, key, R, E⟩) w) := by
  have hlR : R.length = nR := hs.len
  have hlE : E.length = nE := hs'.len
  by_cases h : 0 ≤ gn ∧ gn ≤ 65535
  · by_cases h0 : kd = 0
    · subst h0
      refine specIno_free sz gn key aR nR cR aE nE cE w h _ ?_
      rw [inoB_iff, inoOk_free h, hlR, hlE]
    · by_cases h1 : kd = 1
      · subst h1
        by_cases hh : (0 ≤ sz ∧ sz ≤ 128) ∧ key.size = 8 ∧ (nR : Int) = pagesZ sz ∧ nE = 0
        · obtain ⟨g1, g2, g3, rfl⟩ := hh
          refine specIno_file sz gn key aR nR cR aE cE w R h g1 g2 g3 hs hf _ ?_
          rw [inoB_iff, inoOk_file h, hlR, hlE]
          exact ⟨fun x => x.2.2.2.2, fun x => ⟨g1, g2, g3, rfl, x⟩⟩
        · rw [inoB_no (fun x => by
            rw [inoOk_file h, hlR, hlE] at x
            exact hh ⟨x.1, x.2.1, x.2.2.1, x.2.2.2.1⟩)]
          exact specIno_fileNo sz gn key aR nR cR aE nE cE w h hz hh
      · by_cases h2 : kd = 2
        · subst h2
          by_cases hh : sz = 0 ∧ key.size = 0 ∧ nR = 0 ∧ nE ≤ 6
          · obtain ⟨rfl, g2, rfl, g4⟩ := hh
            obtain rfl : key = ⟨#[]⟩ := text_nothing g2
            refine specIno_dir gn aR cR aE nE cE w E h g4 hs' hf' _ ?_
            rw [inoB_iff, inoOk_dir h, hlR, hlE]
            exact ⟨fun x => x.2.2.2.2, fun x => ⟨rfl, rfl, rfl, g4, x⟩⟩
          · rw [inoB_no (fun x => by
              rw [inoOk_dir h, hlR, hlE] at x
              exact hh ⟨x.1, x.2.1, x.2.2.1, x.2.2.2.1⟩)]
            exact specIno_dirNo sz gn key aR nR cR aE nE cE w h hh
        · rw [inoB_no (fun x => by
            unfold InoOk at x
            rcases x with ⟨_, ⟨e, _⟩ | ⟨e, _⟩ | ⟨e, _⟩⟩
            · exact h0 e
            · exact h1 e
            · exact h2 e)]
          exact specIno_other kd sz gn key aR nR cR aE nE cE w h h0 h1 h2
  · rw [inoB_no (fun x => h x.1)]
    exact specIno_gen kd sz gn key aR nR cR aE nE cE w h
end Go.Proofs.Ytmkchilhnmkhkab
namespace Go.Proofs.Ytmkchilhnmkhkab
open Go.RowKit

set_option maxRecDepth 100000 in
set_option maxHeartbeats 400000 in
theorem specIn_any (n a b : Int) (w : World) : Calls Try.prog 22 #[.int .i64 n, .int .i64 a, .int .i64 b] w fun e w' => e = .returned (.bool (decide (a ≤ n ∧ n ≤ b))) ∧ w' = w := by
  by_cases h1 : a ≤ n <;> by_cases h2 : n ≤ b
  all_goals
    go_enter Try.func22, Try.ntmps22
    go_wp2
    all_goals go_ret
    all_goals exact ⟨by simp [h1, h2], rfl⟩
theorem specIn_yes {n a b : Int} (w : World) (h : a ≤ n ∧ n ≤ b) : Calls Try.prog 22 #[.int .i64 n, .int .i64 a, .int .i64 b] w fun e w' => e = .returned (.bool true) ∧ w' = w :=
  (specIn_any n a b w).mono fun _ _ ⟨he, hw⟩ => ⟨by rw [he, decide_eq_true h], hw⟩
theorem specIn_no {n a b : Int} (w : World) (h : ¬ (a ≤ n ∧ n ≤ b)) : Calls Try.prog 22 #[.int .i64 n, .int .i64 a, .int .i64 b] w fun e w' => e = .returned (.bool false) ∧ w' = w :=
  (specIn_any n a b w).mono fun _ _ ⟨he, hw⟩ => ⟨by rw [he, decide_eq_false h], hw⟩

set_option maxRecDepth 100000 in
set_option maxHeartbeats 1000000 in
theorem specGeo_yes (T P I Q : Int) (w : World) (h : GeoR T P I Q) : Calls Try.prog 21 #[.agg #[.int .i64 T, .int .i64 P, .int .i64 I, .int .i64 Q]] w (SaysB true w) := by
  obtain ⟨a1, a2, b1, b2, c1, c2, d1, d2⟩ := h
  have H1 : (1 : Int) ≤ T ∧ T ≤ 3 := ⟨a1, a2⟩
  have H2 : (5 : Int) ≤ P ∧ P ≤ 12 := ⟨b1, b2⟩
  have H3 : (2 : Int) ≤ I ∧ I ≤ 6 := ⟨c1, c2⟩
  have H4 : (1 : Int) ≤ Q ∧ Q ≤ P - 4 := ⟨d1, d2⟩
  go_enter Try.func21, Try.ntmps21
  go_wp2_with (first | ((with_reducible refine (specIn_yes _ H1).mono ?_); rintro e w1 ⟨rfl, rfl⟩) | ((with_reducible refine (specIn_yes _ H2).mono ?_); rintro e w1 ⟨rfl, rfl⟩) | ((with_reducible refine (specIn_yes _ H3).mono ?_); rintro e w1 ⟨rfl, rfl⟩) | ((with_reducible refine (specIn_yes _ H4).mono ?_); rintro e w1 ⟨rfl, rfl⟩))
  go_ret
  exact ⟨rfl, below_al w _⟩
set_option maxRecDepth 100000 in
set_option maxHeartbeats 1000000 in
theorem specGeo_no (T P I Q : Int) (w : World) (h : ¬ GeoR T P I Q) : Calls Try.prog 21 #[.agg #[.int .i64 T, .int .i64 P, .int .i64 I, .int .i64 Q]] w (SaysB false w) := by
  rcases geo_cases h with H1 | ⟨H1, H2⟩ | ⟨H1, H2, H3⟩ | ⟨H1, H2, H3, H4⟩
  · go_enter Try.func21, Try.ntmps21
    go_wp2_with ((with_reducible refine (specIn_no _ H1).mono ?_); rintro e w1 ⟨rfl, rfl⟩)
    go_ret
    exact ⟨rfl, below_al w _⟩
  · go_enter Try.func21, Try.ntmps21
    go_wp2_with (first | ((with_reducible refine (specIn_yes _ H1).mono ?_); rintro e w1 ⟨rfl, rfl⟩) | ((with_reducible refine (specIn_no _ H2).mono ?_); rintro e w1 ⟨rfl, rfl⟩))
    go_ret
    exact ⟨rfl, below_al w _⟩
  · go_enter Try.func21, Try.ntmps21
    go_wp2_with (first | ((with_reducible refine (specIn_yes _ H1).mono ?_); rintro e w1 ⟨rfl, rfl⟩) | ((with_reducible refine (specIn_yes _ H2).mono ?_); rintro e w1 ⟨rfl, rfl⟩) | ((with_reducible refine (specIn_no _ H3).mono ?_); rintro e w1 ⟨rfl, rfl⟩))
    go_ret
    exact ⟨rfl, below_al w _⟩
  · obtain ⟨b1, b2⟩ := H2
    have H2 : (5 : Int) ≤ P ∧ P ≤ 12 := ⟨b1, b2⟩
    go_enter Try.func21, Try.ntmps21
    go_wp2_with (first | ((with_reducible refine (specIn_yes _ H1).mono ?_); rintro e w1 ⟨rfl, rfl⟩) | ((with_reducible refine (specIn_yes _ H2).mono ?_); rintro e w1 ⟨rfl, rfl⟩) | ((with_reducible refine (specIn_yes _ H3).mono ?_); rintro e w1 ⟨rfl, rfl⟩) | ((with_reducible refine (specIn_no _ H4).mono ?_); rintro e w1 ⟨rfl, rfl⟩))
    go_ret
    exact ⟨rfl, below_al w _⟩
end Go.Proofs.Ytmkchilhnmkhkab
namespace Go.Proofs.Ytmkchilhnmkhkab
open Go.RowKit Go.Proofs.Ytmkchilhnmkhkab.Parts

theorem srcEntry_of_rd {w : World} {L : List EntryR} {a : Option Addr} {n c : Nat} (h : (celRow cEntry L).Rd w (.slice a n c)) : SrcEntry w a n L := by
  obtain ⟨_, _, _, hv, hn⟩ := row_form h
  cases hv
  refine ⟨hn, fun j hj => ?_⟩
  obtain ⟨g, off, ha, hg, q0, q1⟩ := cEntry_at h j hj
  refine ⟨g, off, ha, hg, fun o v hv => ?_⟩
  match o, hv with
  | 0, hv => cases hv; exact q0
  | 1, hv => cases hv; exact q1
theorem srcRec_of_rd {w : World} {L : List RecR} {a : Option Addr} {n c : Nat} (h : (celRow cRec L).Rd w (.slice a n c)) : SrcRec w a n L := by
  obtain ⟨_, _, _, hv, hn⟩ := row_form h
  cases hv
  refine ⟨hn, fun j hj => ?_⟩
  obtain ⟨g, off, ha, hg, q0, q1, q2⟩ := cRec_at h j hj
  refine ⟨g, off, ha, hg, fun o v hv => ?_⟩
  match o, hv with
  | 0, hv => cases hv; exact q0
  | 1, hv => cases hv; exact q1
  | 2, hv => cases hv; exact q2

end Go.Proofs.Ytmkchilhnmkhkab
