/- Merged texts: WrSpec, PwFacts, PwYes, PwBoth, LnkSpec, UsrSpec, DepSpec, AppIs, OkSpec, PlSC, PwSpec. -/
import Derived.Test.YtmkchilhnmkhkabGreatP15ZF
import Derived.Maps.AppendAt
import Derived.Deep.RegionHeld3
namespace Go.Proofs.YtmkchilhnmkhkabGreat
open Go.RowKit Go.Proofs.YtmkchilhnmkhkabGreat.Parts Go.Proofs.YtmkchilhnmkhkabGreat.Hexa Go.Proofs.YtmkchilhnmkhkabGreat.Byt

theorem inoR_eta' (x : InoR) : (⟨x.kd, x.sz, x.gn, x.key, x.R, x.E⟩ : InoR) = x := rfl
/-- What the model's PartWrites gives. -/
def GivesPS (L : List WriteR) (w : World) (e : Ending) (w' : World) : Prop :=
  ∃ v, e = .returned v ∧ w'.ownsRow w.heap.size 62 2 v L.length (cellsE encW L) ∧ Below w.heap.size w w'
set_option maxRecDepth 100000 in
set_option maxHeartbeats 8000000 in
theorem specWrites_any (T P I Q t : Int) (p : PartR) (a1 : Option Addr) (c1 : Nat) (a2 : Option Addr) (c2 : Nat) (w : World) (h1 : (celRow cInt p.st).Rd w (.slice a1 p.st.length c1)) (h2 : (celRow cIno p.ino).Rd w (.slice a2 p.ino.length c2)) (hz : szL (cPart.cels p) ≤ 1048576) (ht : TyL (celsE cIno p.ino)) (hyes : PartOkR T P I Q p ∧ TenR T t) :
    Calls Tryz.prog 21 #[.agg #[.int .i64 T, .int .i64 P, .int .i64 I, .int .i64 Q], .int .i64 t, .agg #[.int .i64 p.ser, .slice a1 p.st.length c1, .slice a2 p.ino.length c2]] w (GivesPS (pwL T P I Q t p) w) := by
  have hb1 := below_bk w (.cells #[.int .i64 T, .int .i64 P, .int .i64 I, .int .i64 Q] 31)
  have hb2 := below_bk (w.alloc (.cells #[.int .i64 T, .int .i64 P, .int .i64 I, .int .i64 Q] 31)) (.cells #[.int .i64 p.ser, .slice a1 p.st.length c1, .slice a2 p.ino.length c2] 35)
  have hb3 := below_bk ((w.alloc (.cells #[.int .i64 T, .int .i64 P, .int .i64 I, .int .i64 Q] 31)).alloc (.cells #[.int .i64 p.ser, .slice a1 p.st.length c1, .slice a2 p.ino.length c2] 35)) (.cells #[] 62)
  have B0 := hb1.trans (hb2.mono hb1.size)
  have G0 := (Four.alloc w T P I Q 31).later hb2
  have X0 : Bk ((w.alloc (.cells #[.int .i64 T, .int .i64 P, .int .i64 I, .int .i64 Q] 31)).alloc (.cells #[.int .i64 p.ser, .slice a1 p.st.length c1, .slice a2 p.ino.length c2] 35)) (w.heap.size + 1) #[.int .i64 p.ser, .slice a1 p.st.length c1, .slice a2 p.ino.length c2] 35 := by
    have h := (Bk.alloc (w.alloc (.cells #[.int .i64 T, .int .i64 P, .int .i64 I, .int .i64 Q] 31)) #[.int .i64 p.ser, .slice a1 p.st.length c1, .slice a2 p.ino.length c2] 35)
    simpa using h
  have PS0 : Hid (PwSt w (((w.alloc (.cells #[.int .i64 T, .int .i64 P, .int .i64 I, .int .i64 Q] 31)).alloc (.cells #[.int .i64 p.ser, .slice a1 p.st.length c1, .slice a2 p.ino.length c2] 35)).alloc (.cells #[] 62)) T P I Q p.ser (.slice a1 p.st.length c1) (.slice a2 p.ino.length c2) (.slice (some ⟨w.heap.size + 2, 0, none⟩) 0 0) []) := Lib.hid (by
    refine ⟨G0.later hb3, X0.later hb3, ?_, B0.trans (hb3.mono B0.size)⟩
    have h := World.ownsRow_lit (base := w.heap.size + 2) (e := 62) (size := 2) ((w.alloc (.cells #[.int .i64 T, .int .i64 P, .int .i64 I, .int .i64 Q] 31)).alloc (.cells #[.int .i64 p.ser, .slice a1 p.st.length c1, .slice a2 p.ino.length c2] 35)) #[] 0 (by simp) (by decide) rfl
    simp only [World.size_alloc] at h
    exact h)
  have HS1 := Lib.hid h1
  have HS2 := Lib.hid h2
  have HT := Lib.hid ht
  have hn : p.st.length ≤ 1048576 := by have h9 := hz; rw [cPart_sz, szInts_eq] at h9; omega
  have hin := Lib.hid (part_ino hz).2
  have hn6 : p.ino.length ≤ 6 := by
    obtain ⟨⟨⟨_, _, _, _, _, h6, _, _⟩, _, _, hl, _⟩, _⟩ := hyes
    omega
  clear h1 h2 hz ht hb1 hb2 hb3 hyes B0 G0 X0
  obtain ⟨z, hz⟩ : ∃ z, placeV T P I Q t 36 = z := ⟨_, rfl⟩
  have HZP := Lib.hid hz
  have HZB : Hid (-1 ≤ z ∧ z ≤ 2000) := Lib.hid (by rw [← hz]; exact place_bd T P I Q t 36 (by omega))
  obtain ⟨ws, hws⟩ : ∃ ws, stWords p.st = ws := ⟨_, rfl⟩
  have HWS := Lib.hid hws
  have HWL : Hid (ws.length ≤ 2) := Lib.hid (by rw [← hws]; exact stW_le p.st)
  have HFIN : Hid (pwL T P I Q t p = wrs z ws ++ iwr T P I Q t p.ino p.ino.length) := Lib.hid (by unfold pwL; rw [hz, hws])
  clear hz hws
  have y1 := PS0.out.part.cell (j := 1) rfl
  go_enter Tryz.func21, Tryz.ntmps21
  go_wp2_with fail
  refine (specStWords_any a1 p.st.length c1 p.st _ (srcI_of_rd (Cel.Rd.later PS0.out.below _ _ HS1.out)) (by omega)).mono ?_
  rw [HWS.out]
  rintro e w2 ⟨v2, rfl, ho, hb⟩
  obtain ⟨aw, cw, rfl, _, _, hfw⟩ := ownE_form ho
  have PS2 := Lib.hid (PS0.out.later hb)
  have HW2 := Lib.hid (srcT_of_own ho)
  have HWB : Hid (∀ q, aw = some q → ¬ w.heap.size + 2 = q.block) := Lib.hid (fun q hq e9 => by
    obtain ⟨g, rfl, h8, _⟩ := hfw q hq
    have h7 : w.heap.size + 2 = g := e9
    simp at h8
    omega)
  clear ho hb hfw y1 PS0
  have k0 := PS2.out.geo.c0
  have k1 := PS2.out.geo.c1
  have k2 := PS2.out.geo.c2
  have k3 := PS2.out.geo.c3
  go_wp2_with fail
  refine (specAt_any T P I Q t 36 (fun _ => by omega) _).mono ?_
  rw [HZP.out]
  rintro e w3 ⟨rfl, hb⟩
  have PS3 := Lib.hid (PS2.out.later hb)
  have HW3 := Lib.hid (HW2.out.below hb (Nat.le_refl _))
  clear hb k0 k1 k2 k3 PS2 HW2
  have hzb := HZB.out
  have hwl := HWL.out
  obtain ⟨v0, hv0⟩ : ∃ v0, Value.slice (some ⟨w.heap.size + 2, 0, none⟩) 0 0 = v0 := ⟨_, rfl⟩
  have HWN : Hid (∀ q, aw = some q → v0.ownBlock ≠ some q.block) := Lib.hid (fun q hq e9 => HWB.out q hq (by rw [← hv0] at e9; exact Option.some.inj e9))
  rw [hv0] at PS3
  have W0 := Lib.hid (WLoop.start z ws PS3.out.row)
  go_wp2
  go_loopw [7, 10] (fun uv kv wr => ∃ (k : Nat), k ≤ ws.length ∧ kv = .int .i64 k ∧ Hid (WLoop (w.heap.size + 2) v0 w3 wr uv [] z ws k)) (fun _ kv _ => ws.length - (intOf kv).toNat)
  case atStart => exact ⟨0, Nat.zero_le _, rfl, W0⟩
  case round =>
    clear W0 hv0
    obtain ⟨k, hk, rfl, HW⟩ := hrel
    obtain ⟨u, hu⟩ : ∃ u, u = u7 := ⟨_, rfl⟩
    rw [← hu] at HW ⊢
    clear hu
    by_cases hlt : k < ws.length
    · have HSr := Lib.hid (HW3.out.apart HW.out.apart HWN.out)
      obtain ⟨g, off, ha2, hg, d0⟩ := srcT_at HSr.out k hlt
      subst ha2
      obtain ⟨s, hs⟩ : ∃ s, ws.getD k default = s := ⟨_, rfl⟩
      rw [hs] at d0
      have HSG := Lib.hid hs
      clear hs
      have hr := appW1 wr 29 (w.heap.size + 2) u (([] : List WriteR).length + k) ([] ++ wrsN z ws k) HW.out.row (by have := PS3.out.low; have := HW.out.apart.size; omega) ⟨z + (k : Int), s⟩ (by simp; omega)
      go_wp2_with (at_builtin; refine wpList_appE rfl _ _ _ _ rfl _ _ rfl rfl hr ?_; clear hr; intro v' w6 h1 h2 h3)
      have HN := Lib.hid (WLoop.step HW.out PS3.out.low HSG.out h1 h2 h3)
      clear h1 h2 h3 d0
      go_wp2
      go_roundw
      case rel => exact ⟨k + 1, by omega, by go_num, HN⟩
      case measure => (simp [intOf]; try omega)
    · obtain rfl : k = ws.length := by omega
      have PS4 : Hid (PwSt w wr T P I Q p.ser (.slice a1 p.st.length c1) (.slice a2 p.ino.length c2) u (wrs z ws)) := Lib.hid (by have h9 := PS3.out.full HW.out; rw [List.nil_append] at h9; exact h9)
      clear HW PS3 HW3 HWN HWB
      go_wp2
      go_loopw [7, 11] (fun uv kv wx => ∃ (k : Nat), k ≤ p.ino.length ∧ kv = .int .i64 k ∧ Hid (PwSt w wx T P I Q p.ser (.slice a1 p.st.length c1) (.slice a2 p.ino.length c2) uv (wrs z ws ++ iwr T P I Q t p.ino k))) (fun _ kv _ => p.ino.length - (intOf kv).toNat)
      case atStart => exact ⟨0, Nat.zero_le _, rfl, Lib.hid (by rw [show iwr T P I Q t p.ino 0 = [] from rfl, List.append_nil]; exact PS4.out)⟩
      case round =>
        clear PS4
        obtain ⟨k, hk, rfl, PS⟩ := hrel
        obtain ⟨u, hu⟩ : ∃ u, u = u7 := ⟨_, rfl⟩
        rw [← hu] at PS ⊢
        clear hu
        have y2 := PS.out.part.cell (j := 2) rfl
        by_cases hlt : k < p.ino.length
        · have HF := Lib.hid (ino_fits (hin.out k hlt) (TyL_at cIno p.ino k HT.out hlt))
          have HIS := Lib.hid (iwr_succ T P I Q t p.ino k)
          obtain ⟨g, off, a4, c4, a5, c5, rfl, hg, d0, d1, d2, d3, d4, d5, r4, r5⟩ := cIno_at (Cel.Rd.later PS.out.below _ _ HS2.out) k hlt
          obtain ⟨x, hx⟩ : ∃ x, p.ino.getD k default = x := ⟨_, rfl⟩
          rw [hx] at d0 d1 d2 d3 d4 d5 r4 r5 HF HIS
          clear hx
          have HLEN : Hid ((iwr T P I Q t p.ino k).length ≤ 8 * k) := Lib.hid (iwr_len T P I Q t p.ino k)
          have R4 := Lib.hid r4
          have R5 := Lib.hid r5
          clear r4 r5
          obtain ⟨L, hL⟩ : ∃ L, wrs z ws ++ iwr T P I Q t p.ino k = L := ⟨_, rfl⟩
          have HLL : Hid (L.length ≤ 60) := Lib.hid (by
            rw [← hL, List.length_append]
            have h7 : (wrs z ws).length = ws.length := wrsN_len _ _ _
            have := HLEN.out
            omega)
          have HI2 : Hid (wrs z ws ++ iwr T P I Q t p.ino (k + 1) = L ++ wrs (inodV T P I Q t k) (inoWordsB x)) := Lib.hid (by rw [HIS.out, ← List.append_assoc, hL])
          rw [hL] at PS
          clear hL HLEN HIS
          obtain ⟨wz, hwz⟩ : ∃ wz, inoWordsB x = wz := ⟨_, rfl⟩
          have HWZ := Lib.hid hwz
          have HWZL : Hid (wz.length ≤ 8) := Lib.hid (by rw [← hwz]; exact inoW_le x)
          obtain ⟨a0, ha0⟩ : ∃ a0, inodV T P I Q t k = a0 := ⟨_, rfl⟩
          have HA0 := Lib.hid ha0
          have hab : -1 ≤ a0 ∧ a0 ≤ 2000 := by rw [← ha0]; exact inod_bd T P I Q t k
          rw [hwz, ha0] at HI2
          clear hwz ha0
          go_wp2_with fail
          refine (specInoWords_any x.kd x.sz x.gn x.key a4 x.R.length c4 a5 x.E.length c5 _ x.R x.E HF.out.1 (srcRec_of_rd R4.out) HF.out.2.2.2.1 (srcEntry_of_rd R5.out) HF.out.2.2.2.2).mono ?_
          rw [inoR_eta', HWZ.out]
          rintro e w5 ⟨v5, rfl, ho, hb⟩
          obtain ⟨bw, cbw, rfl, _, _, hfw⟩ := ownE_form ho
          have PS5 := Lib.hid (PS.out.later hb)
          have HW5 := Lib.hid (srcT_of_own ho)
          have HWN : Hid (∀ q, bw = some q → u.ownBlock ≠ some q.block) := Lib.hid (fun q hq e9 => by
            obtain ⟨g, rfl, h8, _⟩ := hfw q hq
            have := (PS.out.row.lt g e9).2
            omega)
          have W0 := Lib.hid (WLoop.start a0 wz PS5.out.row)
          clear ho hb hfw y2 d0 d1 d2 d3 d4 d5 R4 R5 HF PS
          have hwz := HWZL.out
          go_wp2
          go_loopw [7, 12] (fun uv jv wy => ∃ (j : Nat), j ≤ wz.length ∧ jv = .int .i64 j ∧ Hid (WLoop (w.heap.size + 2) u w5 wy uv L a0 wz j)) (fun _ jv _ => wz.length - (intOf jv).toNat)
          case atStart => exact ⟨0, Nat.zero_le _, rfl, W0⟩
          case round =>
            clear W0
            obtain ⟨j, hj, rfl, HW⟩ := hrel
            obtain ⟨y, hy⟩ : ∃ y, y = u7 := ⟨_, rfl⟩
            rw [← hy] at HW ⊢
            clear hy
            by_cases hjt : j < wz.length
            · have HG := Lib.hid (PS5.out.geo.under HW.out.below (by omega))
              have k0 := HG.out.c0
              have k1 := HG.out.c1
              have k2 := HG.out.c2
              have k3 := HG.out.c3
              have HSr := Lib.hid (HW5.out.apart HW.out.apart HWN.out)
              obtain ⟨g2, off2, hb2, hg2, d0⟩ := srcT_at HSr.out j hjt
              subst hb2
              obtain ⟨s, hs⟩ : ∃ s, wz.getD j default = s := ⟨_, rfl⟩
              rw [hs] at d0
              have HSG := Lib.hid hs
              clear hs
              have hll := HLL.out
              have hwp : IntKind.i64.wrap (a0 + (j : Int)) = a0 + (j : Int) := IntWalk.i64_in _ (by omega)
              have HWd : Hid (WLoop (w.heap.size + 2) u w5 wr.drew y L a0 wz j) := Lib.hid (HW.out.later PS5.out.low (Below.refl _ _).drew)
              go_wp2_with fail
              go_region_law (first
                | (refine step_appE rfl (.tmp 56) (.tmp 68) 29 29 rfl y (.slice (some ⟨w6.heap.size, 0, none⟩) 1 1) (by simp [Act.eval]) (by simp [Act.eval]) HA.out ?_
                   intro v7 w7 hown7 hgrow7 hat7
                   have HN := Lib.hid (WLoop.step HW6.out PS5.out.low HSG.out hown7 hgrow7 hat7)
                   clear hown7 hgrow7 hat7)
                | (go_simp; go_at_call 49; refine (specInode_any T P I Q t k _).mono ?_; rw [HA0.out]; rintro e w6 ⟨rfl, hb6⟩
                   have HW6 := Lib.hid (HWd.out.later PS5.out.low hb6)
                   have d1 : w6.cell? ⟨g2, off2 + j, none⟩ = some (.string s) := (World.cell?_of_block (w := wr) (hb6.block g2 hg2)).trans d0
                   have HA := Lib.hid (appW1 w6 29 (w.heap.size + 2) y (L.length + j) (L ++ wrsN a0 wz j) HW6.out.row (by have := PS5.out.low; have := HW6.out.apart.size; omega) ⟨a0 + (j : Int), s⟩ (by omega))
                   clear hb6))
              all_goals
                go_wp2
                go_roundw
                case rel => exact ⟨j + 1, by omega, by go_num, HN⟩
                case measure => (simp [intOf]; try omega)
            · obtain rfl : j = wz.length := by omega
              have PS6 := Lib.hid (PS5.out.full HW.out)
              rw [← HI2.out] at PS6
              go_wp2
              go_roundw
              case rel => exact ⟨k + 1, by omega, by go_num, PS6⟩
              case measure => (simp [intOf]; try omega)
        · obtain rfl : k = p.ino.length := by omega
          go_wp2
          go_ret
          exact ⟨_, rfl, by rw [HFIN.out]; exact ownE_mono PS.out.row (by omega), PS.out.below⟩
end Go.Proofs.YtmkchilhnmkhkabGreat
namespace Go.Proofs.YtmkchilhnmkhkabGreat
open Go.RowKit Go.Proofs.YtmkchilhnmkhkabGreat.Parts Go.Proofs.YtmkchilhnmkhkabGreat.Hexa Go.Proofs.YtmkchilhnmkhkabGreat.Byt

theorem stW_size {zs : List Int} {x : ByteArray} (h : x ∈ stWords zs) : x.size ≤ 8 := by
  unfold stWords at h
  split at h
  · simp only [List.mem_cons, List.not_mem_nil, or_false] at h
    rcases h with rfl | rfl <;> (unfold cutSt; show (List.take 8 _).toArray.size ≤ 8; rw [List.size_toArray, List.length_take]; exact Nat.min_le_left _ _)
  · cases h
theorem wrs_word {a : Int} {ws : List ByteArray} {x : WriteR} (h : x ∈ wrs a ws) : x.word ∈ ws := by
  unfold wrs wrsN at h
  obtain ⟨k, hk, rfl⟩ := List.mem_map.1 h
  have hk' := List.mem_range.1 hk
  show ws.getD k default ∈ ws
  rw [List.getD_eq_getElem?_getD, List.getElem?_eq_getElem hk']
  exact List.getElem_mem hk'
theorem pwL_word {T P I Q t : Int} {p : PartR} {x : WriteR} (h : x ∈ pwL T P I Q t p) : x.word.size ≤ 8 := by
  unfold pwL at h
  rcases List.mem_append.1 h with h | h
  · exact stW_size (wrs_word h)
  · unfold iwr at h
    obtain ⟨i, _, h9⟩ := List.mem_flatMap.1 h
    exact Nat.le_of_eq (inoWords_sizes (wrs_word h9))
theorem pwR_word {T P I Q t : Int} {p : PartR} {x : WriteR} (h : x ∈ pwR T P I Q t p) : x.word.size ≤ 8 := by
  by_cases hy : PartOkR T P I Q p ∧ TenR T t
  · rw [pwR_yes hy] at h; exact pwL_word h
  · rw [pwR_no hy] at h; cases h
theorem szWr : ∀ L : List WriteR, (∀ x ∈ L, x.word.size ≤ 8) → szL (celsE cWrite L) ≤ 8 * L.length
  | [], _ => Nat.zero_le _
  | x :: r, h => by
    have h1 := szWr r fun y hy => h y (List.mem_cons_of_mem _ hy)
    have h2 := h x List.mem_cons_self
    rw [celsE, szL_append, cWrite_sz, List.length_cons]
    omega
theorem cntWr : ∀ L : List WriteR, cntL (celsE cWrite L) = 2 * L.length
  | [] => rfl
  | x :: r => by rw [celsE, cntL_append, cWrite_cnt, cntWr r, List.length_cons]; omega
theorem pwR_sz (T P I Q t : Int) (p : PartR) : (celRow cWrite (pwR T P I Q t p)).sz ≤ 1000 := by
  rw [sz_row']
  have h1 := szWr _ fun x hx => pwR_word (T := T) (P := P) (I := I) (Q := Q) (t := t) (p := p) hx
  have h2 := pwR_len T P I Q t p
  omega
theorem pwR_cnt (T P I Q t : Int) (p : PartR) : (celRow cWrite (pwR T P I Q t p)).cnt ≤ 1000 := by
  show cntL (celsE cWrite (pwR T P I Q t p)) ≤ 1000
  rw [cntWr]
  have h2 := pwR_len T P I Q t p
  omega
theorem own_wr {w : World} : ∀ L : List WriteR, OwnL w (celsE cWrite L) [] (cellsE encW L)
  | [] => ⟨rfl, rfl⟩
  | x :: r => ⟨.int .i64 x.at_, .string x.word :: cellsE encW r, [], [], rfl, rfl, ⟨rfl, rfl⟩, ⟨.string x.word, cellsE encW r, [], [], rfl, rfl, ⟨rfl, rfl⟩, own_wr r⟩⟩
theorem obj_wr {w : World} {B lo hi : Nat} {v : Value} {L : List WriteR} (h : w.ownsRow B 62 2 v L.length (cellsE encW L)) (h1 : lo ≤ B) (h2 : w.heap.size ≤ hi) : Obj1 w lo hi (celRow cWrite L) v := by
  unfold celRow
  exact obj_of_row h (celsE_length cWrite L) (own_wr L) List.nodup_nil (fun _ hg => by cases hg) (fun g hg => by have := h.lt g hg; exact ⟨by simp, by omega, by omega⟩)
theorem GivesPW.obj {L : List WriteR} {w : World} {e : Ending} {w' : World} (h : GivesPW L w e w') : ∃ v, e = .returned v ∧ Obj1 w' w.heap.size w'.heap.size (celRow cWrite L) v ∧ Below w.heap.size w w' := by
  obtain ⟨v, he, ho, hb⟩ := h
  exact ⟨v, he, obj_wr ho (Nat.le_refl _) (Nat.le_refl _), hb⟩
theorem GivesPS.obj {L : List WriteR} {w : World} {e : Ending} {w' : World} (h : GivesPS L w e w') : ∃ v, e = .returned v ∧ Obj1 w' w.heap.size w'.heap.size (celRow cWrite L) v ∧ Below w.heap.size w w' := by
  obtain ⟨v, he, ho, hb⟩ := h
  exact ⟨v, he, obj_wr ho (Nat.le_refl _) (Nat.le_refl _), hb⟩
end Go.Proofs.YtmkchilhnmkhkabGreat
namespace Go.Proofs.YtmkchilhnmkhkabGreat
open Go.RowKit Go.Proofs.YtmkchilhnmkhkabGreat.Parts Go.Proofs.YtmkchilhnmkhkabGreat.Hexa Go.Proofs.YtmkchilhnmkhkabGreat.Byt

set_option maxRecDepth 100000 in
set_option maxHeartbeats 8000000 in
theorem implPWr_yes (T P I Q t : Int) (p : PartR) (a1 : Option Addr) (c1 : Nat) (a2 : Option Addr) (c2 : Nat) (w : World) (h1 : (celRow cInt p.st).Rd w (.slice a1 p.st.length c1)) (h2 : (celRow cIno p.ino).Rd w (.slice a2 p.ino.length c2)) (hz : szL (cPart.cels p) ≤ 1048576) (ht : TyL (celsE cIno p.ino)) (hyes : PartOkR T P I Q p ∧ TenR T t) :
    Calls Tryz.prog 9 #[.agg #[.int .i64 T, .int .i64 P, .int .i64 I, .int .i64 Q], .int .i64 t, .agg #[.int .i64 p.ser, .slice a1 p.st.length c1, .slice a2 p.ino.length c2]] w (GivesPW (pwL T P I Q t p) w) := by
  have hb1 := below_bk w (.cells #[.int .i64 T, .int .i64 P, .int .i64 I, .int .i64 Q] 31)
  have hb2 := below_bk (w.alloc (.cells #[.int .i64 T, .int .i64 P, .int .i64 I, .int .i64 Q] 31)) (.cells #[.int .i64 p.ser, .slice a1 p.st.length c1, .slice a2 p.ino.length c2] 35)
  have B0 := Lib.hid (hb1.trans (hb2.mono hb1.size))
  have G0 := Lib.hid ((Four.alloc w T P I Q 31).later hb2)
  have X0 : Hid (Bk ((w.alloc (.cells #[.int .i64 T, .int .i64 P, .int .i64 I, .int .i64 Q] 31)).alloc (.cells #[.int .i64 p.ser, .slice a1 p.st.length c1, .slice a2 p.ino.length c2] 35)) (w.heap.size + 1) #[.int .i64 p.ser, .slice a1 p.st.length c1, .slice a2 p.ino.length c2] 35) := Lib.hid (by
    have h := (Bk.alloc (w.alloc (.cells #[.int .i64 T, .int .i64 P, .int .i64 I, .int .i64 Q] 31)) #[.int .i64 p.ser, .slice a1 p.st.length c1, .slice a2 p.ino.length c2] 35)
    simpa using h)
  have HS1 := Lib.hid h1
  have HS2 := Lib.hid h2
  have HZ := Lib.hid hz
  have HT := Lib.hid ht
  have hn : p.st.length ≤ 1048576 := by have h9 := hz; rw [cPart_sz, szInts_eq] at h9; omega
  have hin := Lib.hid (part_ino hz).2
  have hn6 : p.ino.length ≤ 6 := by
    obtain ⟨⟨⟨_, _, _, _, _, h6, _, _⟩, _, _, hl, _⟩, _⟩ := hyes
    omega
  have E1 := Lib.hid (decB_yes (show GeoR T P I Q ∧ TenR T t from ⟨hyes.1.1, hyes.2⟩))
  have E2 := Lib.hid (show ptB T P I Q p = true from decB_yes hyes.1)
  clear h1 h2 hz ht hb1 hb2 hyes
  obtain ⟨z, hz⟩ : ∃ z, placeV T P I Q t 36 = z := ⟨_, rfl⟩
  have HZP := Lib.hid hz
  have HZB : Hid (-1 ≤ z ∧ z ≤ 2000) := Lib.hid (by rw [← hz]; exact place_bd T P I Q t 36 (by omega))
  obtain ⟨ws, hws⟩ : ∃ ws, stWords p.st = ws := ⟨_, rfl⟩
  have HWS := Lib.hid hws
  have HWL : Hid (ws.length ≤ 2) := Lib.hid (by rw [← hws]; exact stW_le p.st)
  have HFIN : Hid (pwL T P I Q t p = wrs z ws ++ iwr T P I Q t p.ino p.ino.length) := Lib.hid (by unfold pwL; rw [hz, hws])
  clear hz hws
  have k0 := G0.out.c0
  have k1 := G0.out.c1
  have k2 := G0.out.c2
  have k3 := G0.out.c3
  have y0 := X0.out.cell (j := 0) rfl
  have y1 := X0.out.cell (j := 1) rfl
  have y2 := X0.out.cell (j := 2) rfl
  go_enter Tryz.func9, Tryz.ntmps9
  go_wp2_with fail
  refine (implTen_dec T P I Q t _).mono ?_
  rw [E1.out]
  rintro e w1 ⟨rfl, hb⟩
  have G1 := Lib.hid (G0.out.later hb)
  have X1 := Lib.hid (X0.out.later hb)
  have B1 : Hid (Below w.heap.size w w1) := Lib.hid (B0.out.trans (hb.mono B0.out.size))
  clear hb k0 k1 k2 k3 y0 y1 y2
  have k0 := G1.out.c0
  have k1 := G1.out.c1
  have k2 := G1.out.c2
  have k3 := G1.out.c3
  have y0 := X1.out.cell (j := 0) rfl
  have y1 := X1.out.cell (j := 1) rfl
  have y2 := X1.out.cell (j := 2) rfl
  go_wp2_with fail
  refine (implPartOk_any T P I Q p a1 c1 a2 c2 _ (Cel.Rd.later B1.out _ _ HS1.out) (Cel.Rd.later B1.out _ _ HS2.out) HZ.out HT.out).mono ?_
  rw [E2.out]
  rintro e w2 ⟨rfl, hb⟩
  have GD := Lib.hid (G1.out.later hb).drew
  have XD := Lib.hid (X1.out.later hb).drew
  have BD : Hid (Below w.heap.size w w2.drew) := Lib.hid (B1.out.trans (hb.mono B1.out.size)).drew
  clear hb k0 k1 k2 k3 y0 y1 y2 G0 G1 X0 X1 B0 B1 E1 E2
  have c0 := GD.out.c0
  have c1' := GD.out.c1
  have c2' := GD.out.c2
  have c3 := GD.out.c3
  have x1 := XD.out.cell (j := 1) rfl
  go_upto_region 3 with fail
  go_cut [7] (fun uv wx => PwSt w wx T P I Q p.ser (.slice a1 p.st.length c1) (.slice a2 p.ino.length c2) uv (wrs z ws))
  case first =>
    go_region_held3 (fun w' => w'.cell? ⟨w.heap.size, 0, none⟩ = some (.int .i64 T) ∧ w'.cell? ⟨w.heap.size, 1, none⟩ = some (.int .i64 P) ∧ w'.cell? ⟨w.heap.size, 2, none⟩ = some (.int .i64 I) ∧ w'.cell? ⟨w.heap.size, 3, none⟩ = some (.int .i64 Q) ∧ w'.cell? ⟨w.heap.size + 1, 1, none⟩ = some (.slice a1 p.st.length c1))
      (first
        | exact ⟨GD.out.c0, GD.out.c1, GD.out.c2, GD.out.c3, XD.out.cell rfl⟩
        | go_keep)
      (first
      | (go_at_call 27; (with_reducible refine (implStatesAt_any T P I Q t _).mono ?_); rw [HZP.out]; rintro e w3 ⟨rfl, hb⟩; have GD := Lib.hid (GD.out.later hb); have XD := Lib.hid (XD.out.later hb); have BD : Hid (Below w.heap.size w w3) := Lib.hid (BD.out.trans (hb.mono BD.out.size)); try (have HWD := Lib.hid (HWD.out.below hb (Nat.le_refl _))); clear hb)
      | (go_at_call 28; (with_reducible refine (implStWords_any a1 p.st.length c1 p.st _ (srcI_of_rd (Cel.Rd.later BD.out _ _ HS1.out)) (by omega)).mono ?_); rw [HWS.out]; rintro e w4 ⟨v4, rfl, ho, hb⟩; obtain ⟨aw, cw, rfl, _⟩ := ownE_form ho; have HWD := Lib.hid (srcT_of_own ho); have GD := Lib.hid (GD.out.later hb); have XD := Lib.hid (XD.out.later hb); have BD : Hid (Below w.heap.size w w4) := Lib.hid (BD.out.trans (hb.mono BD.out.size)); clear ho hb)
      | (go_at_call 26; (with_reducible refine (implAppW_any (.slice none 0 0) [] (w.heap.size + 2) z aw ws.length cw ws _ (own_nilW _ _) (by have h9 := XD.out.lt; omega) HWD.out (by simp) (by have := HWL.out; omega) HZB.out (fun _ _ => nil_own _)).mono ?_); rintro e w5 ⟨v5, rfl, ho, _, _, hb⟩; have HR := Lib.hid ho; have GD := Lib.hid (GD.out.under hb (by omega)); have XD := Lib.hid (XD.out.under hb (by omega)); have BD : Hid (Below w.heap.size w w5) := Lib.hid (BD.out.trans (hb.mono (by omega))); clear ho hb))
    all_goals (go_wp2; go_meet; exact ⟨GD.out, XD.out, by have h9 := HR.out; rw [List.nil_append] at h9; exact h9, BD.out⟩)
  case rest =>
    clear GD XD BD c0 c1' c2' c3 x1
    have PS := Lib.hid hcut
    clear hcut
    have y2 := PS.out.part.cell (j := 2) rfl
    go_wp2
    go_loopw [30, 7] (fun kv uv wr => ∃ (k : Nat), k ≤ p.ino.length ∧ kv = .int .i64 k ∧ Hid (PwSt w wr T P I Q p.ser (.slice a1 p.st.length c1) (.slice a2 p.ino.length c2) uv (wrs z ws ++ iwr T P I Q t p.ino k))) (fun kv _ _ => p.ino.length - (intOf kv).toNat)
    case atStart => exact ⟨0, Nat.zero_le _, rfl, Lib.hid (by rw [show iwr T P I Q t p.ino 0 = [] from rfl, List.append_nil]; exact PS.out)⟩
    case round =>
      clear PS y2
      obtain ⟨k, hk, rfl, PS⟩ := hrel
      obtain ⟨u, hu⟩ : ∃ u, u = u7 := ⟨_, rfl⟩
      rw [← hu] at PS ⊢
      clear hu
      by_cases hlt : k < p.ino.length
      · have HF := Lib.hid (ino_fits (hin.out k hlt) (TyL_at cIno p.ino k HT.out hlt))
        have HIS := Lib.hid (iwr_succ T P I Q t p.ino k)
        obtain ⟨g, off, a4, c4, a5, c5, rfl, hg, d0, d1, d2, d3, d4, d5, r4, r5⟩ := cIno_at (Cel.Rd.later PS.out.below _ _ HS2.out) k hlt
        obtain ⟨x, hx⟩ : ∃ x, p.ino.getD k default = x := ⟨_, rfl⟩
        rw [hx] at d0 d1 d2 d3 d4 d5 r4 r5 HF HIS
        clear hx
        have HLEN : Hid ((iwr T P I Q t p.ino k).length ≤ 8 * k) := Lib.hid (iwr_len T P I Q t p.ino k)
        obtain ⟨L, hL⟩ : ∃ L, wrs z ws ++ iwr T P I Q t p.ino k = L := ⟨_, rfl⟩
        have HLL : Hid (L.length ≤ 60) := Lib.hid (by
          rw [← hL, List.length_append]
          have h7 : (wrs z ws).length = ws.length := wrsN_len _ _ _
          have := HLEN.out
          have := HWL.out
          omega)
        have HI2 : Hid (wrs z ws ++ iwr T P I Q t p.ino (k + 1) = L ++ wrs (inodV T P I Q t k) (inoWordsB x)) := Lib.hid (by rw [HIS.out, ← List.append_assoc, hL])
        rw [hL] at PS
        clear hL HLEN HIS
        obtain ⟨wz, hwz⟩ : ∃ wz, inoWordsB x = wz := ⟨_, rfl⟩
        have HWZ := Lib.hid hwz
        have HWZL : Hid (wz.length ≤ 8) := Lib.hid (by rw [← hwz]; exact inoW_le x)
        obtain ⟨a0, ha0⟩ : ∃ a0, inodV T P I Q t k = a0 := ⟨_, rfl⟩
        have HA0 := Lib.hid ha0
        have HAB : Hid (-1 ≤ a0 ∧ a0 ≤ 2000) := Lib.hid (by rw [← ha0]; exact inod_bd T P I Q t k)
        rw [hwz, ha0] at HI2
        clear hwz ha0
        have hbx := below_bk wr (.cells #[.int .i64 x.kd, .int .i64 x.sz, .int .i64 x.gn, .string x.key, .slice a4 x.R.length c4, .slice a5 x.E.length c5] 57)
        have TD := Lib.hid (Bk.alloc wr #[.int .i64 x.kd, .int .i64 x.sz, .int .i64 x.gn, .string x.key, .slice a4 x.R.length c4, .slice a5 x.E.length c5] 57).drew
        have R4 := Lib.hid (Cel.Rd.later hbx.drew _ _ r4)
        have R5 := Lib.hid (Cel.Rd.later hbx.drew _ _ r5)
        have PD := Lib.hid (PS.out.later hbx.drew)
        have HUB : Hid (∀ q, u.ownBlock = some q → q < wr.heap.size) := Lib.hid (fun q hq => (PS.out.row.lt q hq).2)
        clear hbx r4 r5
        have t0 := TD.out.cell (j := 0) rfl
        have t1 := TD.out.cell (j := 1) rfl
        have t2 := TD.out.cell (j := 2) rfl
        have t3 := TD.out.cell (j := 3) rfl
        have t4 := TD.out.cell (j := 4) rfl
        have t5 := TD.out.cell (j := 5) rfl
        have c0 := PD.out.geo.c0
        have c1' := PD.out.geo.c1
        have c2' := PD.out.geo.c2
        have c3 := PD.out.geo.c3
        go_upto_region 7 with fail
        go_region_held3 (fun w' => w'.cell? ⟨w.heap.size, 0, none⟩ = some (.int .i64 T) ∧ w'.cell? ⟨w.heap.size, 1, none⟩ = some (.int .i64 P) ∧ w'.cell? ⟨w.heap.size, 2, none⟩ = some (.int .i64 I) ∧ w'.cell? ⟨w.heap.size, 3, none⟩ = some (.int .i64 Q) ∧ w'.cell? ⟨wr.heap.size, 0, none⟩ = some (.int .i64 x.kd) ∧ w'.cell? ⟨wr.heap.size, 1, none⟩ = some (.int .i64 x.sz) ∧ w'.cell? ⟨wr.heap.size, 2, none⟩ = some (.int .i64 x.gn) ∧ w'.cell? ⟨wr.heap.size, 3, none⟩ = some (.string x.key) ∧ w'.cell? ⟨wr.heap.size, 4, none⟩ = some (.slice a4 x.R.length c4) ∧ w'.cell? ⟨wr.heap.size, 5, none⟩ = some (.slice a5 x.E.length c5))
          (first
            | exact ⟨PE.out.geo.c0, PE.out.geo.c1, PE.out.geo.c2, PE.out.geo.c3, TD.out.cell rfl, TD.out.cell rfl, TD.out.cell rfl, TD.out.cell rfl, TD.out.cell rfl, TD.out.cell rfl⟩
            | exact ⟨PD.out.geo.c0, PD.out.geo.c1, PD.out.geo.c2, PD.out.geo.c3, TD.out.cell rfl, TD.out.cell rfl, TD.out.cell rfl, TD.out.cell rfl, TD.out.cell rfl, TD.out.cell rfl⟩
            | go_keep)
          (first
          | (go_at_call 29; (with_reducible refine (implInode_any T P I Q t k _).mono ?_); rw [HA0.out]; rintro e w3 ⟨rfl, hb⟩; have PD := Lib.hid (PD.out.later hb); have TD := Lib.hid (TD.out.later hb); have R4 := Lib.hid (Cel.Rd.later hb _ _ R4.out); have R5 := Lib.hid (Cel.Rd.later hb _ _ R5.out); try (have HWD := Lib.hid (HWD.out.below hb (Nat.le_refl _))); clear hb)
          | (go_at_call 30; (with_reducible refine (implInoWords_any x.sz x.gn x.key a4 x.R.length c4 a5 x.E.length c5 _ x.R x.E x.kd HF.out.1 (by have := HF.out.2.2.1; omega) (srcRec_of_rd R4.out) HF.out.2.2.2.1 (srcEntry_of_rd R5.out) HF.out.2.2.2.2).mono ?_); rw [inoR_eta, HWZ.out]; rintro e w4 ⟨v4, rfl, ho, hb⟩; obtain ⟨aw, cw, rfl, _, _, hfw⟩ := ownE_form ho; have HWD := Lib.hid (srcT_of_own ho); have HWN : Hid (∀ q, aw = some q → u.ownBlock ≠ some q.block) := Lib.hid (fun q hq e9 => by
               obtain ⟨g9, rfl, h8, _⟩ := hfw q hq
               have h6 := TD.out.lt
               have h7 := HUB.out g9 e9
               omega); have PD := Lib.hid (PD.out.later hb); have TD := Lib.hid (TD.out.later hb); have R4 := Lib.hid (Cel.Rd.later hb _ _ R4.out); have R5 := Lib.hid (Cel.Rd.later hb _ _ R5.out); clear ho hb hfw)
          | (go_at_call 26; (with_reducible refine (implAppW_any u L (w.heap.size + 2) a0 aw wz.length cw wz _ PD.out.row (by have h9 := PD.out.low; omega) HWD.out (by have := HLL.out; omega) (by have := HWZL.out; omega) HAB.out HWN.out).mono ?_); rintro e w5 ⟨v5, rfl, ho, ha, _, hb⟩; have PE : Hid (PwSt w w5 T P I Q p.ser _ _ v5 (L ++ wrs a0 wz)) := Lib.hid ⟨PD.out.geo.under hb (by omega), PD.out.part.under' hb (by omega), ho, PD.out.below.trans (hb.mono (by omega))⟩; have TD := Lib.hid (TD.out.apart ha (fun e9 => absurd (HUB.out _ e9) (Nat.lt_irrefl _))); have GD := Lib.hid PE.out.geo; clear ho ha hb))
        all_goals
          have PR := Lib.hid PE.out
          rw [← HI2.out] at PR
          clear PS PD PE TD R4 R5
          go_wp2
          go_roundw
          case rel => exact ⟨k + 1, by omega, by go_num, PR⟩
          case measure => (simp [intOf]; try omega)
      · obtain rfl : k = p.ino.length := by omega
        go_wp2
        go_ret
        exact ⟨_, rfl, by rw [HFIN.out]; exact ownE_mono PS.out.row (by omega), PS.out.below⟩
end Go.Proofs.YtmkchilhnmkhkabGreat
namespace Go.Proofs.YtmkchilhnmkhkabGreat
open Go.RowKit Go.Proofs.YtmkchilhnmkhkabGreat.Parts Go.Proofs.YtmkchilhnmkhkabGreat.Hexa Go.Proofs.YtmkchilhnmkhkabGreat.Byt

theorem implPWr_any (T P I Q t : Int) (p : PartR) (a1 : Option Addr) (c1 : Nat) (a2 : Option Addr) (c2 : Nat) (w : World) (h1 : (celRow cInt p.st).Rd w (.slice a1 p.st.length c1)) (h2 : (celRow cIno p.ino).Rd w (.slice a2 p.ino.length c2)) (hz : szL (cPart.cels p) ≤ 1048576) (ht : TyL (celsE cIno p.ino)) :
    Calls Tryz.prog 9 #[.agg #[.int .i64 T, .int .i64 P, .int .i64 I, .int .i64 Q], .int .i64 t, .agg #[.int .i64 p.ser, .slice a1 p.st.length c1, .slice a2 p.ino.length c2]] w (GivesPW (pwR T P I Q t p) w) := by
  by_cases h : PartOkR T P I Q p ∧ TenR T t
  · rw [pwR_yes h]; exact implPWr_yes T P I Q t p a1 c1 a2 c2 w h1 h2 hz ht h
  · rw [pwR_no h]
    exact (implPWr_no T P I Q t p a1 c1 a2 c2 w h1 h2 hz ht h).mono fun e w' ⟨he, hb⟩ => ⟨_, he, World.ownsRow_nil _ _ _ _, hb⟩
end Go.Proofs.YtmkchilhnmkhkabGreat
namespace Go.Proofs.YtmkchilhnmkhkabGreat
open Go.RowKit Go.Proofs.YtmkchilhnmkhkabGreat.Parts Go.Proofs.YtmkchilhnmkhkabGreat.Hexa

set_option maxRecDepth 100000 in
set_option maxHeartbeats 2000000 in
theorem specLinks_any (p : PartR) (a1 : Option Addr) (c1 : Nat) (a2 : Option Addr) (c2 : Nat) (i : Int) (w : World) (h2 : (celRow cIno p.ino).Rd w (.slice a2 p.ino.length c2)) (hz : szL (cPart.cels p) ≤ 100000000) :
    Calls Tryz.prog 41 #[.agg #[.int .i64 p.ser, .slice a1 p.st.length c1, .slice a2 p.ino.length c2], .int .i64 i] w (SaysI (cntI (entsOf p.ino) i : Nat) w) := by
  have B0 := Lib.hid (below_bk w (.cells #[.int .i64 p.ser, .slice a1 p.st.length c1, .slice a2 p.ino.length c2] 35))
  have T0 := Lib.hid (Bk.alloc w #[.int .i64 p.ser, .slice a1 p.st.length c1, .slice a2 p.ino.length c2] 35)
  have HS := Lib.hid (Cel.Rd.later B0.out _ _ h2)
  rw [cPart_sz] at hz
  have hz1 : p.ino.length + szL (celsE cIno p.ino) ≤ 100000000 := by have := sz_row cIno p.ino; omega
  have HE : Hid (∀ k, (entsOf (p.ino.take k)).length ≤ 100000000) := Lib.hid (fun k => by have := ents_take p.ino k; omega)
  have hn : p.ino.length ≤ 100000000 := by omega
  have HY : Hid (∀ k, k < p.ino.length → (p.ino.getD k default).E.length ≤ 100000000) := Lib.hid (fun k hk => by
    have h3 := szL_at cIno p.ino k hk
    rw [cIno_sz] at h3
    have := len_sz cEntry (p.ino.getD k default).E
    omega)
  clear h2 hz hz1
  obtain ⟨W0, hW0⟩ : ∃ x, x = w.alloc (.cells #[.int .i64 p.ser, .slice a1 p.st.length c1, .slice a2 p.ino.length c2] 35) := ⟨_, rfl⟩
  rw [← hW0] at B0 T0 HS
  have HW0 := Lib.hid hW0
  clear hW0
  have c2' := T0.out.cell (j := 2) rfl
  go_enter Tryz.func41, Tryz.ntmps41
  go_wp2
  rw [← HW0.out]
  go_loopw [5, 6] (fun nv kv wr => ∃ (k m : Nat), k ≤ p.ino.length ∧ kv = .int .i64 k ∧ nv = .int .i64 (m : Int) ∧ m ≤ 100000000 ∧ Hid (m = cntI (entsOf (p.ino.take k)) i) ∧ W0 = wr) (fun _ kv _ => p.ino.length - (intOf kv).toNat)
  case atStart => exact ⟨0, 0, Nat.zero_le _, rfl, rfl, by omega, Lib.hid rfl, rfl⟩
  case round =>
    obtain ⟨k, m, hk, rfl, rfl, hm, HM, rfl⟩ := hrel
    by_cases hlt : k < p.ino.length
    · have HE1 := Lib.hid (HE.out (k + 1))
      have HN := Lib.hid (entsOf_next hlt)
      have hy := HY.out k hlt
      obtain ⟨g, off, a4, c4, a5, c5, rfl, hg, d0, d1, d2, d3, d4, d5, r4, r5⟩ := cIno_at HS.out k hlt
      obtain ⟨x, hx⟩ : ∃ x, p.ino.getD k default = x := ⟨_, rfl⟩
      rw [hx] at d0 d5 r5 HN hy
      clear hx d1 d2 d3 d4 r4
      have R5 := Lib.hid r5
      clear r5
      go_wp2
      go_loopw [5, 7] (fun nv jv wr => ∃ (j m' : Nat), j ≤ x.E.length ∧ jv = .int .i64 j ∧ nv = .int .i64 (m' : Int) ∧ m' ≤ 100000000 ∧ Hid (m' = m + cntI (x.E.take j) i) ∧ (x.kd = 2 ∨ j = 0) ∧ W0 = wr) (fun _ jv _ => x.E.length - (intOf jv).toNat)
      case atStart => exact ⟨0, m, Nat.zero_le _, rfl, rfl, hm, Lib.hid rfl, .inr rfl, rfl⟩
      case round =>
        obtain ⟨j, m', hj, rfl, rfl, hm', HM', hor, rfl⟩ := hrel
        by_cases hjt : j < x.E.length
        · by_cases hkd : x.kd = 2
          · rw [hkd] at d0
            obtain ⟨ge, oe, rfl, hge, q0, q1⟩ := cEntry_at R5.out j hjt
            obtain ⟨ev, hev⟩ : ∃ e, (x.E.getD j default).f0 = e := ⟨_, rfl⟩
            rw [hev] at q0
            clear q1
            by_cases hq : ev = i
            · have HC := Lib.hid (cntI_yes hjt (hev.trans hq))
              clear hev
              have hm9 : m' + 1 ≤ 100000000 := by
                have h1 := HM'.out
                have h2 := HC.out
                have h3 := HE1.out
                rw [HN.out, dirE_yes hkd, List.length_append] at h3
                have h4 := HM.out
                have h5 := cntI_le (entsOf (p.ino.take k)) i
                have h6 := cntI_le (x.E.take (j + 1)) i
                have h7 : (x.E.take (j + 1)).length ≤ x.E.length := by rw [List.length_take]; omega
                omega
              go_wp2
              go_roundw
              case rel => exact ⟨j + 1, m' + 1, by omega, by go_num, by go_num, hm9, Lib.hid (by have := HM'.out; have := HC.out; omega), by simp [hkd], by first | rfl | trivial⟩
              case measure => (simp [intOf]; try omega)
            · have HC := Lib.hid (cntI_no hjt (fun e => hq (hev.symm.trans e)))
              clear hev
              go_wp2
              go_roundw
              case rel => exact ⟨j + 1, m', by omega, by go_num, rfl, hm', Lib.hid (by have := HM'.out; have := HC.out; omega), by simp [hkd], by first | rfl | trivial⟩
              case measure => (simp [intOf]; try omega)
          · obtain rfl : j = 0 := by
              rcases hor with h | h
              · exact absurd h hkd
              · exact h
            have HM2 : Hid (m' = cntI (entsOf (p.ino.take (k + 1))) i) := Lib.hid (by
              rw [HN.out, dirE_no hkd, List.append_nil, HM'.out, ← HM.out]; rfl)
            go_wp2
            go_roundw
            case rel => exact ⟨k + 1, m', by omega, by go_num, rfl, hm', HM2, by first | rfl | trivial⟩
            case measure => (simp [intOf]; try omega)
        · obtain rfl : j = x.E.length := by omega
          have HM2 : Hid (m' = cntI (entsOf (p.ino.take (k + 1))) i) := Lib.hid (by
            rw [HN.out, cntI_append, ← HM.out, HM'.out, List.take_length]
            rcases hor with h | h
            · rw [dirE_yes h]
            · have h9 : x.E = [] := List.length_eq_zero_iff.1 h
              by_cases hkd : x.kd = 2
              · rw [dirE_yes hkd]
              · rw [dirE_no hkd, h9])
          go_wp2
          go_roundw
          case rel => exact ⟨k + 1, m', by omega, by go_num, rfl, hm', HM2, by first | rfl | trivial⟩
          case measure => (simp [intOf]; try omega)
    · obtain rfl : k = p.ino.length := by omega
      have h9 := HM.out
      rw [List.take_length] at h9
      subst h9
      go_wp2
      go_ret
      exact ⟨rfl, B0.out⟩
end Go.Proofs.YtmkchilhnmkhkabGreat
namespace Go.Proofs.YtmkchilhnmkhkabGreat
open Go.RowKit Go.Proofs.YtmkchilhnmkhkabGreat.Parts Go.Proofs.YtmkchilhnmkhkabGreat.Hexa

set_option maxRecDepth 100000 in
set_option maxHeartbeats 2000000 in
theorem specUsers_any (p : PartR) (a1 : Option Addr) (c1 : Nat) (a2 : Option Addr) (c2 : Nat) (i : Int) (w : World) (h2 : (celRow cIno p.ino).Rd w (.slice a2 p.ino.length c2)) (hz : szL (cPart.cels p) ≤ 100000000) (ht : TyL (celsE cIno p.ino)) (hi : 0 ≤ i ∧ i ≤ 1000000) :
    Calls Tryz.prog 45 #[.agg #[.int .i64 p.ser, .slice a1 p.st.length c1, .slice a2 p.ino.length c2], .int .i64 i] w (SaysI (cntP (recsOf p.ino) i : Nat) w) := by
  have B0 := Lib.hid (below_bk w (.cells #[.int .i64 p.ser, .slice a1 p.st.length c1, .slice a2 p.ino.length c2] 35))
  have T0 := Lib.hid (Bk.alloc w #[.int .i64 p.ser, .slice a1 p.st.length c1, .slice a2 p.ino.length c2] 35)
  have HS := Lib.hid (Cel.Rd.later B0.out _ _ h2)
  rw [cPart_sz] at hz
  have hz1 : p.ino.length + szL (celsE cIno p.ino) ≤ 100000000 := by have := sz_row cIno p.ino; omega
  have HE : Hid (∀ k, (recsOf (p.ino.take k)).length ≤ 100000000) := Lib.hid (fun k => by have := recs_take p.ino k; omega)
  have hn : p.ino.length ≤ 100000000 := by omega
  have HY : Hid (∀ k, k < p.ino.length → (p.ino.getD k default).R.length ≤ 100000000) := Lib.hid (fun k hk => by
    have h3 := szL_at cIno p.ino k hk
    rw [cIno_sz] at h3
    have := len_sz cRec (p.ino.getD k default).R
    omega)
  have HT := Lib.hid ht
  obtain ⟨hi0, hi1⟩ := hi
  clear h2 hz hz1 ht
  obtain ⟨W0, hW0⟩ : ∃ x, x = w.alloc (.cells #[.int .i64 p.ser, .slice a1 p.st.length c1, .slice a2 p.ino.length c2] 35) := ⟨_, rfl⟩
  rw [← hW0] at B0 T0 HS
  have HW0 := Lib.hid hW0
  clear hW0
  have c2' := T0.out.cell (j := 2) rfl
  go_enter Tryz.func45, Tryz.ntmps45
  go_wp2
  rw [← HW0.out]
  go_loopw [5, 6] (fun nv kv wr => ∃ (k m : Nat), k ≤ p.ino.length ∧ kv = .int .i64 k ∧ nv = .int .i64 (m : Int) ∧ m ≤ 100000000 ∧ Hid (m = cntP (recsOf (p.ino.take k)) i) ∧ W0 = wr) (fun _ kv _ => p.ino.length - (intOf kv).toNat)
  case atStart => exact ⟨0, 0, Nat.zero_le _, rfl, rfl, by omega, Lib.hid rfl, rfl⟩
  case round =>
    obtain ⟨k, m, hk, rfl, rfl, hm, HM, rfl⟩ := hrel
    by_cases hlt : k < p.ino.length
    · have HE1 := Lib.hid (HE.out (k + 1))
      have HN := Lib.hid (recsOf_next hlt)
      have hy := HY.out k hlt
      obtain ⟨g, off, a4, c4, a5, c5, rfl, hg, d0, d1, d2, d3, d4, d5, r4, r5⟩ := cIno_at HS.out k hlt
      obtain ⟨x, hx⟩ : ∃ x, p.ino.getD k default = x := ⟨_, rfl⟩
      have HTx := Lib.hid (TyL_at cIno p.ino k HT.out hlt)
      rw [hx] at d0 d4 r4 HN hy HTx
      clear hx d1 d2 d3 d5 r5
      have R5 := Lib.hid r4
      clear r4
      have HTr : Hid (TyL (celsE cRec x.R)) := Lib.hid HTx.out.2.2.2.2.1.2
      clear HTx
      go_wp2
      go_loopw [5, 7] (fun nv jv wr => ∃ (j m' : Nat), j ≤ x.R.length ∧ jv = .int .i64 j ∧ nv = .int .i64 (m' : Int) ∧ m' ≤ 100000000 ∧ Hid (m' = m + cntP (x.R.take j) i) ∧ (x.kd = 1 ∨ j = 0) ∧ W0 = wr) (fun _ jv _ => x.R.length - (intOf jv).toNat)
      case atStart => exact ⟨0, m, Nat.zero_le _, rfl, rfl, hm, Lib.hid rfl, .inr rfl, rfl⟩
      case round =>
        obtain ⟨j, m', hj, rfl, rfl, hm', HM', hor, rfl⟩ := hrel
        by_cases hjt : j < x.R.length
        · by_cases hkd : x.kd = 1
          · rw [hkd] at d0
            obtain ⟨ge, oe, rfl, hge, q0, q1, q2⟩ := cRec_at R5.out j hjt
            have hb : -9223372036854775808 ≤ (x.R.getD j default).f0 ∧ (x.R.getD j default).f0 ≤ 9223372036854775807 := (TyL_at cRec x.R j HTr.out hjt).1
            obtain ⟨ev, hev⟩ : ∃ e, (x.R.getD j default).f0 = e := ⟨_, rfl⟩
            rw [hev] at q0 hb
            clear q1 q2
            by_cases hq : ev = i + 1
            · have HC := Lib.hid (cntP_yes hjt (hev.trans hq))
              subst hq
              clear hev
              have hm9 : m' + 1 ≤ 100000000 := by
                have h1 := HM'.out
                have h2 := HC.out
                have h3 := HE1.out
                rw [HN.out, filR_yes hkd, List.length_append] at h3
                have h4 := HM.out
                have h5 := cntP_le (recsOf (p.ino.take k)) i
                have h6 := cntP_le (x.R.take (j + 1)) i
                have h7 : (x.R.take (j + 1)).length ≤ x.R.length := by rw [List.length_take]; omega
                omega
              go_wp2
              go_roundw
              case rel => exact ⟨j + 1, m' + 1, by omega, by go_num, by go_num, hm9, Lib.hid (by have := HM'.out; have := HC.out; omega), by simp [hkd], by first | rfl | trivial⟩
              case measure => (simp [intOf]; try omega)
            · have HC := Lib.hid (cntP_no hjt (fun e => hq (hev.symm.trans e)))
              clear hev
              by_cases hmin : ev = -9223372036854775808
              case pos =>
                have hwr : wrap64 (-9223372036854775809) = 9223372036854775807 := by unfold wrap64; omega
                have hne : ¬ ((9223372036854775807 : Int) = i) := by omega
                clear hq
                go_wp2
                go_roundw
                case rel => exact ⟨j + 1, m', by omega, by go_num, rfl, hm', Lib.hid (by have := HM'.out; have := HC.out; omega), by simp [hkd], by first | rfl | trivial⟩
                case measure => (simp [intOf]; try omega)
              have hne : ¬ (ev - 1 = i) := by omega
              have hge1 : -9223372036854775807 ≤ ev := by omega
              go_wp2
              go_roundw
              case rel => exact ⟨j + 1, m', by omega, by go_num, rfl, hm', Lib.hid (by have := HM'.out; have := HC.out; omega), by simp [hkd], by first | rfl | trivial⟩
              case measure => (simp [intOf]; try omega)
          · obtain rfl : j = 0 := by
              rcases hor with h | h
              · exact absurd h hkd
              · exact h
            have HM2 : Hid (m' = cntP (recsOf (p.ino.take (k + 1))) i) := Lib.hid (by
              rw [HN.out, filR_no hkd, List.append_nil, HM'.out, ← HM.out]; rfl)
            go_wp2
            go_roundw
            case rel => exact ⟨k + 1, m', by omega, by go_num, rfl, hm', HM2, by first | rfl | trivial⟩
            case measure => (simp [intOf]; try omega)
        · obtain rfl : j = x.R.length := by omega
          have HM2 : Hid (m' = cntP (recsOf (p.ino.take (k + 1))) i) := Lib.hid (by
            rw [HN.out, cntP_append, ← HM.out, HM'.out, List.take_length]
            rcases hor with h | h
            · rw [filR_yes h]
            · have h9 : x.R = [] := List.length_eq_zero_iff.1 h
              by_cases hkd : x.kd = 1
              · rw [filR_yes hkd]
              · rw [filR_no hkd, h9])
          go_wp2
          go_roundw
          case rel => exact ⟨k + 1, m', by omega, by go_num, rfl, hm', HM2, by first | rfl | trivial⟩
          case measure => (simp [intOf]; try omega)
    · obtain rfl : k = p.ino.length := by omega
      have h9 := HM.out
      rw [List.take_length] at h9
      subst h9
      go_wp2
      go_ret
      exact ⟨rfl, B0.out⟩
end Go.Proofs.YtmkchilhnmkhkabGreat
namespace Go.Proofs.YtmkchilhnmkhkabGreat
open Go.RowKit Go.Proofs.YtmkchilhnmkhkabGreat.Parts Go.Proofs.YtmkchilhnmkhkabGreat.Hexa

set_option maxRecDepth 100000 in
set_option maxHeartbeats 2000000 in
theorem specAbove_any (p : PartR) (a1 : Option Addr) (c1 : Nat) (a2 : Option Addr) (c2 : Nat) (i : Int) (w : World) (h2 : (celRow cIno p.ino).Rd w (.slice a2 p.ino.length c2)) (hz : szL (cPart.cels p) ≤ 100000000) :
    Calls Tryz.prog 78 #[.agg #[.int .i64 p.ser, .slice a1 p.st.length c1, .slice a2 p.ino.length c2], .int .i64 i] w (SaysI (aboveZ p.ino i) w) := by
  have B0 := Lib.hid (below_bk w (.cells #[.int .i64 p.ser, .slice a1 p.st.length c1, .slice a2 p.ino.length c2] 35))
  have T0 := Lib.hid (Bk.alloc w #[.int .i64 p.ser, .slice a1 p.st.length c1, .slice a2 p.ino.length c2] 35)
  have HS := Lib.hid (Cel.Rd.later B0.out _ _ h2)
  rw [cPart_sz] at hz
  have hz1 : p.ino.length + szL (celsE cIno p.ino) ≤ 100000000 := by have := sz_row cIno p.ino; omega
  have HE : Hid (∀ k, (entsOf (p.ino.take k)).length ≤ 100000000) := Lib.hid (fun k => by have := ents_take p.ino k; omega)
  have hn : p.ino.length ≤ 100000000 := by omega
  have HY : Hid (∀ k, k < p.ino.length → (p.ino.getD k default).E.length ≤ 100000000) := Lib.hid (fun k hk => by
    have h3 := szL_at cIno p.ino k hk
    rw [cIno_sz] at h3
    have := len_sz cEntry (p.ino.getD k default).E
    omega)
  clear h2 hz hz1
  obtain ⟨W0, hW0⟩ : ∃ x, x = w.alloc (.cells #[.int .i64 p.ser, .slice a1 p.st.length c1, .slice a2 p.ino.length c2] 35) := ⟨_, rfl⟩
  rw [← hW0] at B0 T0 HS
  have HW0 := Lib.hid hW0
  clear hW0
  have c2' := T0.out.cell (j := 2) rfl
  go_enter Tryz.func78, Tryz.ntmps78
  go_wp2
  rw [← HW0.out]
  go_loopw [5] (fun kv wr => ∃ (k : Nat), k ≤ p.ino.length ∧ kv = .int .i64 k ∧ Hid (∀ j, j < k → hasI (dirE (p.ino.getD j default)) i = false) ∧ W0 = wr) (fun kv _ => p.ino.length - (intOf kv).toNat)
  case atStart => exact ⟨0, Nat.zero_le _, rfl, Lib.hid (fun j hj => by omega), rfl⟩
  case round =>
    obtain ⟨k, hk, rfl, HM, rfl⟩ := hrel
    by_cases hlt : k < p.ino.length
    · have hy := HY.out k hlt
      have HA : Hid (hasI (dirE (p.ino.getD k default)) i = true → aboveZ p.ino i = (k : Int)) := Lib.hid (fun h => above_some hlt HM.out h)
      have HB : Hid (hasI (dirE (p.ino.getD k default)) i = false → ∀ j, j < k + 1 → hasI (dirE (p.ino.getD j default)) i = false) := Lib.hid (fun h j hj => by
        by_cases e : j = k
        · rw [e]; exact h
        · exact HM.out j (by omega))
      obtain ⟨g, off, a4, c4, a5, c5, rfl, hg, d0, d1, d2, d3, d4, d5, r4, r5⟩ := cIno_at HS.out k hlt
      obtain ⟨x, hx⟩ : ∃ x, p.ino.getD k default = x := ⟨_, rfl⟩
      rw [hx] at d0 d5 r5 hy HA HB
      clear hx d1 d2 d3 d4 r4
      have R5 := Lib.hid r5
      clear r5
      go_wp2
      go_loopw [6] (fun jv wr => ∃ (j : Nat), j ≤ x.E.length ∧ jv = .int .i64 j ∧ Hid (hasI (x.E.take j) i = false) ∧ (x.kd = 2 ∨ j = 0) ∧ W0 = wr) (fun jv _ => x.E.length - (intOf jv).toNat)
      case atStart => exact ⟨0, Nat.zero_le _, rfl, Lib.hid rfl, .inr rfl, rfl⟩
      case round =>
        obtain ⟨j, hj, rfl, HM', hor, rfl⟩ := hrel
        by_cases hjt : j < x.E.length
        · by_cases hkd : x.kd = 2
          · rw [hkd] at d0
            obtain ⟨ge, oe, rfl, hge, q0, q1⟩ := cEntry_at R5.out j hjt
            have HN := Lib.hid (hasI_next (i := i) hjt)
            obtain ⟨ev, hev⟩ : ∃ e, (x.E.getD j default).f0 = e := ⟨_, rfl⟩
            rw [hev] at q0 HN
            clear q1 hev
            by_cases hq : ev = i
            · have HC : Hid (aboveZ p.ino i = (k : Int)) := Lib.hid (HA.out (by rw [dirE_yes hkd]; exact hasI_take (j := j + 1) (by rw [HN.out, hq]; simp)))
              go_wp2
              go_ret
              exact ⟨ret_i64m HC.out.symm, B0.out⟩
            · have HC : Hid (hasI (x.E.take (j + 1)) i = false) := Lib.hid (by rw [HN.out, HM'.out]; simpa using hq)
              go_wp2
              go_roundw
              case rel => exact ⟨j + 1, by omega, by go_num, HC, by simp [hkd], by first | rfl | trivial⟩
              case measure => (simp [intOf]; try omega)
          · have HC := Lib.hid (HB.out (by rw [dirE_no hkd]; rfl))
            go_wp2
            go_roundw
            case rel => exact ⟨k + 1, by omega, by go_num, HC, by first | rfl | trivial⟩
            case measure => (simp [intOf]; try omega)
        · obtain rfl : j = x.E.length := by omega
          have HC := Lib.hid (HB.out (by
            have h9 := HM'.out
            rw [List.take_length] at h9
            by_cases hkd : x.kd = 2
            · rw [dirE_yes hkd]; exact h9
            · rw [dirE_no hkd]; rfl))
          go_wp2
          go_roundw
          case rel => exact ⟨k + 1, by omega, by go_num, HC, by first | rfl | trivial⟩
          case measure => (simp [intOf]; try omega)
    · obtain rfl : k = p.ino.length := by omega
      have HC := Lib.hid (above_none HM.out)
      go_wp2
      go_ret
      exact ⟨ret_i64m HC.out.symm, B0.out⟩

set_option maxRecDepth 100000 in
set_option maxHeartbeats 2000000 in
theorem specDepth_any (p : PartR) (a1 : Option Addr) (c1 : Nat) (a2 : Option Addr) (c2 : Nat) (i : Int) (w : World) (h2 : (celRow cIno p.ino).Rd w (.slice a2 p.ino.length c2)) (hz : szL (cPart.cels p) ≤ 100000000) :
    Calls Tryz.prog 43 #[.agg #[.int .i64 p.ser, .slice a1 p.st.length c1, .slice a2 p.ino.length c2], .int .i64 i] w (SaysI (depthZ p.ino i) w) := by
  have B0 := Lib.hid (below_bk w (.cells #[.int .i64 p.ser, .slice a1 p.st.length c1, .slice a2 p.ino.length c2] 35))
  have T0 := Lib.hid (Bk.alloc w #[.int .i64 p.ser, .slice a1 p.st.length c1, .slice a2 p.ino.length c2] 35)
  have HS := Lib.hid h2
  have HZ := Lib.hid hz
  rw [cPart_sz] at hz
  have hn : p.ino.length ≤ 100000000 := by have := sz_row cIno p.ino; omega
  clear h2 hz
  obtain ⟨d, hd⟩ : ∃ d, depthZ p.ino i = d := ⟨_, rfl⟩
  rw [hd]
  have HD : Hid (depthGo p.ino (p.ino.length + 1) 0 i = d) := Lib.hid hd
  clear hd
  go_enter Tryz.func43, Tryz.ntmps43
  go_wp2
  go_loopw [1, 5] (fun iv nv wr => ∃ (n : Nat) (z : Int), n ≤ p.ino.length + 1 ∧ nv = .int .i64 n ∧ iv = .int .i64 z ∧ Hid (depthGo p.ino (p.ino.length + 1 - n) n z = d) ∧ Below w.heap.size w wr ∧ Hid (Bk wr w.heap.size #[.int .i64 p.ser, .slice a1 p.st.length c1, .slice a2 p.ino.length c2] 35)) (fun _ nv _ => p.ino.length + 1 - (intOf nv).toNat)
  case atStart => exact ⟨0, i, Nat.zero_le _, rfl, rfl, HD, B0.out, T0⟩
  case round =>
    clear HD T0
    obtain ⟨n, z, hnn, rfl, rfl, HG, hbel, HT⟩ := hrel
    have t0 := HT.out.cell (j := 0) rfl
    have t1 := HT.out.cell (j := 1) rfl
    have t2 := HT.out.cell (j := 2) rfl
    by_cases hlt : n ≤ p.ino.length
    · have HG2 : Hid ((if z = 0 then (n : Int) else if aboveZ p.ino z < 0 then -1 else depthGo p.ino (p.ino.length + 1 - (n + 1)) (n + 1) (aboveZ p.ino z)) = d) := Lib.hid (by
        have h9 := HG.out
        rw [show p.ino.length + 1 - n = (p.ino.length + 1 - (n + 1)) + 1 by omega, depthGo] at h9
        exact h9)
      clear HG
      by_cases hz0 : z = 0
      · have HE : Hid ((n : Int) = d) := Lib.hid (by have h9 := HG2.out; rw [if_pos hz0] at h9; exact h9)
        subst hz0
        go_wp2
        go_ret
        exact ⟨ret_i64m HE.out, hbel⟩
      · go_wp2_with fail
        refine (specAbove_any p a1 c1 a2 c2 z _ (Cel.Rd.later hbel _ _ HS.out) HZ.out).mono ?_
        rintro e w1 ⟨rfl, hb⟩
        have HT1 := Lib.hid (HT.out.later hb)
        have hb2 : Below w.heap.size w w1 := hbel.trans (hb.mono hbel.size)
        obtain ⟨q, hq⟩ : ∃ q, aboveZ p.ino z = q := ⟨_, rfl⟩
        have HG3 := HG2.out
        rw [if_neg hz0, hq] at HG3
        rw [hq]
        have HG4 := Lib.hid HG3
        clear HG3 hb hq HG2 t0 t1 t2
        by_cases hq0 : q < 0
        · have HE : Hid (-1 = d) := Lib.hid (by have h9 := HG4.out; rw [if_pos hq0] at h9; exact h9)
          go_wp2
          go_ret
          exact ⟨ret_i64m HE.out, hb2⟩
        · have HE : Hid (depthGo p.ino (p.ino.length + 1 - (n + 1)) (n + 1) q = d) := Lib.hid (by have h9 := HG4.out; rw [if_neg hq0] at h9; exact h9)
          go_wp2
          go_roundw
          case rel => exact ⟨n + 1, q, by omega, by go_num, rfl, HE, hb2, HT1⟩
          case measure => (simp [intOf]; try omega)
    · obtain rfl : n = p.ino.length + 1 := by omega
      have HE : Hid (-1 = d) := Lib.hid (by have h9 := HG.out; rw [Nat.sub_self] at h9; exact h9)
      go_wp2
      go_ret
      exact ⟨ret_i64m HE.out, hbel⟩
end Go.Proofs.YtmkchilhnmkhkabGreat
namespace Go.Proofs.YtmkchilhnmkhkabGreat
open Go.RowKit Go.Proofs.YtmkchilhnmkhkabGreat.Parts Go.Proofs.YtmkchilhnmkhkabGreat.Hexa

def encI : Enc Int := ⟨1, fun x => [.int .i64 x], fun _ => rfl⟩
theorem cellsI_eq : ∀ L : List Int, cellsE encI L = icells L
  | [] => rfl
  | x :: r => by rw [cellsE, cellsI_eq r]; rfl
theorem srcE_of_srcI {w : World} {a : Option Addr} {n : Nat} {zs : List Int} (h : SrcI w a n zs) : SrcE encI w a n zs := by
  refine ⟨h.len, fun j hj => ?_⟩
  obtain ⟨g, off, e, hg, hc⟩ := h.cell j hj
  refine ⟨g, off, e, hg, fun r v hr => ?_⟩
  cases r with
  | zero =>
    cases hr
    rw [show off + j * encI.k + 0 = off + j from by show off + j * 1 + 0 = off + j; omega]
    exact hc
  | succ r => cases hr
theorem srcI_of_srcE {w : World} {a : Option Addr} {n : Nat} {zs : List Int} (h : SrcE encI w a n zs) : SrcI w a n zs := by
  refine ⟨h.len, fun j hj => ?_⟩
  obtain ⟨g, off, e, hg, hc⟩ := h.cell j hj
  have h9 := hc 0 _ rfl
  rw [show off + j * encI.k + 0 = off + j from by show off + j * 1 + 0 = off + j; omega] at h9
  exact ⟨g, off, e, hg, h9⟩
theorem srcI_of_own {w : World} {B e n cap : Nat} {a : Option Addr} {zs : List Int} (h : w.ownsRow B e 1 (.slice a n cap) n (icells zs)) : SrcI w a n zs :=
  srcI_of_srcE (srcE_of_own (E := encI) (by rw [cellsI_eq]; exact h) (by decide))
theorem srcI_take {w : World} {a : Option Addr} {n q : Nat} {zs : List Int} (h : SrcI w a n zs) (hq : q ≤ n) : SrcI w a q (zs.take q) :=
  ⟨by rw [List.length_take, h.len]; omega, fun j hj => by
    obtain ⟨g, off, e, hg, hc⟩ := h.cell j (by omega)
    refine ⟨g, off, e, hg, ?_⟩
    rw [hc]
    simp only [List.getD, List.getElem?_take]
    rw [if_pos hj]⟩
theorem emptyI (w : World) (B : Nat) (hB : B ≤ w.heap.size) : (w.alloc (.cells #[] 3)).ownsRow B 3 1 (.slice (some ⟨w.heap.size, 0, none⟩) 0 0) 0 (icells []) := World.ownsRow_lit w #[] 0 hB (by decide) rfl
theorem appIs (w : World) (ty : TypeId) (B : Nat) (v : Value) (n : Nat) (L : List Int) (hown : w.ownsRow B 3 1 v n (icells L)) (hB : B ≤ w.heap.size) (a : Option Addr) (m c : Nat) (M : List Int) (hs : SrcI w a m M) (hnm : n + m ≤ 100000000) :
    AppE Tryz.prog #[24, 24] ty #[v, .slice a m c] w B 3 1 (n + m) (icells (L ++ M)) v := by
  obtain ⟨i0, hi, hz0, hz1, hz2⟩ := info_parts infoInt
  rw [show icells (L ++ M) = icells L ++ icells M by simp [icells]]
  cases a with
  | none =>
    have hm0 : m = 0 := by
      rcases Nat.eq_zero_or_pos m with h | h
      · exact h
      · obtain ⟨g, off, e, _⟩ := hs.cell 0 h; cases e
    subst hm0
    have hM : M = [] := List.length_eq_zero_iff.1 hs.len
    subst hM
    exact ⟨v, w, run_append_nothing w B _ ty _ i0 1 Tryz.underlying24 hi v n c _ hown, by simpa [icells] using hown, ⟨rfl, rfl, rfl, Nat.le_refl _, fun _ _ _ => rfl⟩, .inl rfl⟩
  | some p =>
    obtain ⟨v', w', hr, h2, h3, _, h5⟩ := run_append_own_at (P := Tryz.prog) w B 24 ty 3 i0 _ 1 8 Tryz.underlying24 hi hz0 hz1 hz2 rfl (by decide) v n _ hown p m c (icells M) (by rw [icells_length, hs.len]; omega) (by rw [← cellsI_eq]; exact (srcE_of_srcI hs).news (by decide)) (by simp [icells, Value.oneCell']) (by unfold maxLen; omega) (by omega) hB
    exact ⟨v', w', hr, h2, h3, h5⟩
end Go.Proofs.YtmkchilhnmkhkabGreat
namespace Go.Proofs.YtmkchilhnmkhkabGreat
open Go.RowKit Go.Proofs.YtmkchilhnmkhkabGreat.Parts Go.Proofs.YtmkchilhnmkhkabGreat.Hexa Go.Proofs.YtmkchilhnmkhkabGreat.Byt

theorem ret_boolo {a b : Bool} (h : a = b) : Ending.returned (.bool a) = .returned (.bool b) := by rw [h]
theorem dec_eqo {q : Prop} [Decidable q] : decide q = decB q := by
  by_cases h : q
  · rw [decB_yes h, decide_eq_true h]
  · rw [decB_no h, decide_eq_false h]
theorem specGeo_dec (T P I Q : Int) (w : World) : Calls Tryz.prog 38 #[.agg #[.int .i64 T, .int .i64 P, .int .i64 I, .int .i64 Q]] w (SaysB (decB (GeoR T P I Q)) w) := by
  by_cases h : GeoR T P I Q
  · rw [decB_yes h]; exact specGeo_yes T P I Q w h
  · rw [decB_no h]; exact specGeo_no T P I Q w h
theorem place_zero {L : List InoR} {i : Nat} {kd : Int} (h0 : i = 0 → kd = 2) (h : i = 0 ∨ kd = 0) : PlaceR L i kd ↔ cntI (entsOf L) i = 0 := by
  unfold PlaceR
  by_cases hi : i = 0
  · have := h0 hi
    constructor
    · intro h9; exact (h9.1 hi).2
    · intro h9; exact ⟨fun _ => ⟨this, h9⟩, fun h8 => absurd hi h8⟩
  · have hk : kd = 0 := h.resolve_left hi
    constructor
    · intro h9; exact (h9.2 hi).1 hk
    · intro h9; exact ⟨fun h8 => absurd h8 hi, fun _ => ⟨fun _ => h9, fun h8 => absurd hk h8⟩⟩
theorem place_one {L : List InoR} {i : Nat} {kd : Int} (hi : ¬ i = 0) (hk : ¬ kd = 0) : PlaceR L i kd ↔ cntI (entsOf L) i = 1 ∧ ¬ depthZ L i < 0 := by
  unfold PlaceR
  rw [depth_neg]
  constructor
  · intro h9; exact (h9.2 hi).2 hk
  · intro h9; exact ⟨fun h8 => absurd h8 hi, fun _ => ⟨fun h8 => absurd h8 hk, fun _ => h9⟩⟩
theorem ents_all {L : List InoR} {I : Int} (hI : (L.length : Int) = I) (hok : InosR L) : EntsR L ↔ ∀ j, j < L.length → ∀ e ∈ (L.getD j default).E, e.f0 < I := by
  constructor
  · intro h j hj e he
    have h1 := ok_ents (hok j hj)
    rw [← hI]
    refine (h e ?_).2
    unfold entsOf
    rw [List.mem_flatMap]
    exact ⟨_, getD_mem hj, by rw [← h1.1]; exact he⟩
  · intro h e he
    obtain ⟨n, hn, hk, he⟩ := mem_ents he
    obtain ⟨j, hj, rfl⟩ := mem_getD hn
    have h1 := ok_ents (hok j hj)
    have h2 := h1.2 e he
    exact ⟨by omega, by rw [hI]; exact h j hj e he⟩
theorem recs_pos {L : List InoR} (hok : InosR L) : ∀ r ∈ recsOf L, 1 ≤ r.f0 := by
  intro r hr
  obtain ⟨n, hn, _, hr⟩ := mem_recs hr
  obtain ⟨j, hj, rfl⟩ := mem_getD hn
  exact (ok_recs (hok j hj)).2 r hr
theorem inosR_all {L : List InoR} (hok : InosR L) : ∀ n ∈ L, InoOk n := by
  intro n hn
  obtain ⟨j, hj, rfl⟩ := mem_getD hn
  exact hok j hj

set_option maxRecDepth 100000 in
set_option maxHeartbeats 8000000 in
theorem specPartOk_any (T P I Q : Int) (p : PartR) (a1 : Option Addr) (c1 : Nat) (a2 : Option Addr) (c2 : Nat) (w : World) (h1 : (celRow cInt p.st).Rd w (.slice a1 p.st.length c1)) (h2 : (celRow cIno p.ino).Rd w (.slice a2 p.ino.length c2)) (hz : szL (cPart.cels p) ≤ 1048576) (ht : TyL (celsE cIno p.ino)) :
    Calls Tryz.prog 19 #[.agg #[.int .i64 T, .int .i64 P, .int .i64 I, .int .i64 Q], .agg #[.int .i64 p.ser, .slice a1 p.st.length c1, .slice a2 p.ino.length c2]] w (SaysB (ptB T P I Q p) w) := by
  rw [show ptB T P I Q p = decB (PartOkR T P I Q p) from rfl]
  have hb1 := below_bk w (.cells #[.int .i64 T, .int .i64 P, .int .i64 I, .int .i64 Q] 31)
  have hb2 := below_bk (w.alloc (.cells #[.int .i64 T, .int .i64 P, .int .i64 I, .int .i64 Q] 31)) (.cells #[.int .i64 p.ser, .slice a1 p.st.length c1, .slice a2 p.ino.length c2] 35)
  have B0 := Lib.hid (hb1.trans (hb2.mono hb1.size))
  have G0 := Lib.hid ((Four.alloc w T P I Q 31).later hb2)
  have X0 : Hid (Bk ((w.alloc (.cells #[.int .i64 T, .int .i64 P, .int .i64 I, .int .i64 Q] 31)).alloc (.cells #[.int .i64 p.ser, .slice a1 p.st.length c1, .slice a2 p.ino.length c2] 35)) (w.heap.size + 1) #[.int .i64 p.ser, .slice a1 p.st.length c1, .slice a2 p.ino.length c2] 35) := Lib.hid (by
    have h := (Bk.alloc (w.alloc (.cells #[.int .i64 T, .int .i64 P, .int .i64 I, .int .i64 Q] 31)) #[.int .i64 p.ser, .slice a1 p.st.length c1, .slice a2 p.ino.length c2] 35)
    simpa using h)
  have HS1 := Lib.hid h1
  have HS2 := Lib.hid h2
  have HZ := Lib.hid hz
  have HZB : Hid (szL (cPart.cels p) ≤ 100000000) := Lib.hid (by omega)
  have HT := Lib.hid ht
  have hn : p.st.length ≤ 1048576 := by have h9 := hz; rw [cPart_sz, szInts_eq] at h9; omega
  have hn2 : p.ino.length ≤ 1048576 := (part_ino hz).1
  have HIN := Lib.hid (part_ino hz).2
  have HSM : Hid (∀ k, sumR (p.ino.take k) ≤ 1048576) := Lib.hid (fun k => by have h9 := sumR_le p.ino k; have h8 := hz; rw [cPart_sz] at h8; have := sz_row' cIno p.ino; omega)
  clear h1 h2 hz ht hb1 hb2
  obtain ⟨g1, e1⟩ : ∃ b, decB (GeoR T P I Q) = b := ⟨_, rfl⟩
  obtain ⟨g2, e2⟩ : ∃ b, decB (SerR p.ser) = b := ⟨_, rfl⟩
  obtain ⟨g3, e3⟩ : ∃ b, decB (StOk p.st P) = b := ⟨_, rfl⟩
  have E1 := Lib.hid e1
  have E2 : Hid (decide (0 ≤ p.ser ∧ p.ser ≤ 16777215) = g2) := Lib.hid (by rw [dec_eqo]; exact e2)
  have E2' := Lib.hid e2
  have E3 : Hid (stB p.st P = g3) := Lib.hid e3
  clear e1 e2 e3
  have k0 := G0.out.c0
  have k1 := G0.out.c1
  have k2 := G0.out.c2
  have k3 := G0.out.c3
  have y0 := X0.out.cell (j := 0) rfl
  have y1 := X0.out.cell (j := 1) rfl
  have y2 := X0.out.cell (j := 2) rfl
  go_enter Tryz.func19, Tryz.ntmps19
  go_wp2_with fail
  refine (specGeo_dec T P I Q _).mono ?_
  rw [E1.out]
  rintro e w1 ⟨rfl, hb⟩
  have G1 := Lib.hid (G0.out.later hb)
  have X1 := Lib.hid (X0.out.later hb)
  have B1 : Hid (Below w.heap.size w w1) := Lib.hid (B0.out.trans (hb.mono B0.out.size))
  clear k0 k1 k2 k3 y0 y1 y2
  clear hb
  have k0 := G1.out.c0
  have k1 := G1.out.c1
  have k2 := G1.out.c2
  have k3 := G1.out.c3
  have y0 := X1.out.cell (j := 0) rfl
  have y1 := X1.out.cell (j := 1) rfl
  have y2 := X1.out.cell (j := 2) rfl
  cases g1 with
  | false =>
    have HC := Lib.hid (decB_no (q := PartOkR T P I Q p) (fun h => by have h9 := decB_yes h.1; rw [E1.out] at h9; cases h9))
    go_wp2
    go_ret
    exact ⟨ret_boolo HC.out.symm, B1.out⟩
  | true =>
  have P1 := Lib.hid (decB_iff.1 E1.out)
  go_wp2_with fail
  refine (range_any p.ser 0 16777215 _).mono ?_
  rw [E2.out]
  rintro e w2 ⟨rfl, rfl⟩
  cases g2 with
  | false =>
    have HC := Lib.hid (decB_no (q := PartOkR T P I Q p) (fun h => by have h9 := decB_yes h.2.1; rw [E2'.out] at h9; cases h9))
    go_wp2
    go_ret
    exact ⟨ret_boolo HC.out.symm, B1.out⟩
  | true =>
  have P2 := Lib.hid (decB_iff.1 E2'.out)
  go_wp2_with fail
  refine (specStOk_any a1 p.st.length c1 p.st P _ (srcI_of_rd (Cel.Rd.later B1.out _ _ HS1.out)) (by omega)).mono ?_
  rw [E3.out]
  rintro e w3 ⟨rfl, rfl⟩
  cases g3 with
  | false =>
    have HC := Lib.hid (decB_no (q := PartOkR T P I Q p) (fun h => by have h9 := decB_yes h.2.2.1; rw [show decB (StOk p.st P) = false from E3.out] at h9; cases h9))
    go_wp2
    go_ret
    exact ⟨ret_boolo HC.out.symm, B1.out⟩
  | true =>
  have P3 : Hid (StOk p.st P) := Lib.hid (decB_iff.1 E3.out)
  by_cases h4 : (p.ino.length : Int) = I
  case neg =>
    have e4 : ((p.ino.length : Int) != I) = true := by simpa using h4
    have HC := Lib.hid (decB_no (q := PartOkR T P I Q p) (fun h => h4 h.2.2.2.1))
    go_wp2
    go_ret
    exact ⟨ret_boolo HC.out.symm, B1.out⟩
  have P4 := Lib.hid h4
  have e4 : ((p.ino.length : Int) != I) = false := by simpa using h4
  have hpos : 0 < p.ino.length := by
    obtain ⟨_, _, _, _, h8, _, _, _⟩ := P1.out
    omega
  obtain ⟨g, off, a4, c4, a5, c5, ha, hg, d0, d1, d2, d3, d4, d5, r4, r5⟩ := cIno_at (Cel.Rd.later B1.out _ _ HS2.out) 0 hpos
  clear d1 d2 d3 d4 d5 r4 r5 h4
  subst ha
  rw [Nat.zero_mul, Nat.add_zero] at d0
  by_cases h5 : (p.ino.getD 0 default).kd = 2
  case neg =>
    obtain ⟨kd, hkd⟩ : ∃ y, (p.ino.getD 0 default).kd = y := ⟨_, rfl⟩
    rw [hkd] at d0 h5
    have HK := Lib.hid hkd
    have e5 : (kd != 2) = true := by simpa using h5
    clear hkd
    have HC := Lib.hid (decB_no (q := PartOkR T P I Q p) (fun h => h5 (by rw [← HK.out]; exact ((h.2.2.2.2.2.1.2 0 hpos).1 rfl).1)))
    go_wp2
    go_ret
    exact ⟨ret_boolo HC.out.symm, B1.out⟩
  rw [h5] at d0
  have P5 := Lib.hid h5
  clear h5
  obtain ⟨m0, hm0⟩ : ∃ m, cntI (entsOf p.ino) ((0 : Nat) : Int) = m := ⟨_, rfl⟩
  have HM0 := Lib.hid hm0
  clear hm0
  go_wp2_with fail
  refine (specLinks_any p a1 c1 _ c2 0 _ (Cel.Rd.later B1.out _ _ HS2.out) HZB.out).mono ?_
  rw [show ((cntI (entsOf p.ino) 0 : Nat) : Int) = (m0 : Int) from by rw [← HM0.out]; rfl]
  rintro e w4 ⟨rfl, hb⟩
  have G2 := Lib.hid (G1.out.later hb)
  have X2 := Lib.hid (X1.out.later hb)
  have B2 : Hid (Below w.heap.size w w4) := Lib.hid (B1.out.trans (hb.mono B1.out.size))
  clear k0 k1 k2 k3 y0 y1 y2
  clear hb d0
  by_cases h6 : 0 < m0
  · have h6' : (0 : Int) < m0 := by omega
    have HC := Lib.hid (decB_no (q := PartOkR T P I Q p) (fun h => by have h9 := ((h.2.2.2.2.2.1.2 0 hpos).1 rfl).2; rw [HM0.out] at h9; omega))
    go_wp2
    go_ret
    exact ⟨ret_boolo HC.out.symm, B2.out⟩
  have h6' : ¬ ((0 : Int) < m0) := by omega
  go_wp2
  clear h6 h6' hpos e4
  go_loopw [5, 6] (fun rv kv wr => ∃ (k rc : Nat), k ≤ p.ino.length ∧ kv = .int .i64 k ∧ rv = .int .i64 rc ∧ rc ≤ 1048576 ∧ Hid (rc = sumR (p.ino.take k)) ∧ Hid (∀ j, j < k → InoOk (p.ino.getD j default) ∧ PlaceR p.ino j (p.ino.getD j default).kd ∧ ∀ e ∈ (p.ino.getD j default).E, e.f0 < I) ∧ Below w.heap.size w wr ∧ Hid (Four wr w.heap.size T P I Q 31) ∧ Hid (Bk wr (w.heap.size + 1) #[.int .i64 p.ser, .slice a1 p.st.length c1, .slice (some ⟨g, off, none⟩) p.ino.length c2] 35)) (fun _ kv _ => p.ino.length - (intOf kv).toNat)
  case atStart => exact ⟨0, 0, Nat.zero_le _, rfl, rfl, by omega, Lib.hid rfl, Lib.hid (fun j hj => by omega), B2.out, G2, X2⟩
  case round =>
    clear B1 G1 X1 G2 X2 B2 B0 G0 X0
    obtain ⟨k, rc, hk, rfl, rfl, hrc, HRC, HM, hbel, GW, XW⟩ := hrel
    by_cases hlt : k < p.ino.length
    · have HF := Lib.hid (ino_fits (HIN.out k hlt) (TyL_at cIno p.ino k HT.out hlt))
      have HSN := Lib.hid (sumR_next hlt)
      have hsm := HSM.out (k + 1)
      have HI9 : Hid (¬ InoOk (p.ino.getD k default) → ¬ PartOkR T P I Q p) := Lib.hid (fun h h9 => h (h9.2.2.2.2.1 k hlt))
      have HP9 : Hid (¬ PlaceR p.ino k (p.ino.getD k default).kd → ¬ PartOkR T P I Q p) := Lib.hid (fun h h9 => h (h9.2.2.2.2.2.1.2 k hlt))
      have HE9 : Hid ((∃ e ∈ (p.ino.getD k default).E, ¬ e.f0 < I) → ¬ PartOkR T P I Q p) := Lib.hid (fun ⟨e, he, hn⟩ h9 => hn ((ents_all P4.out h9.2.2.2.2.1).1 h9.2.2.2.2.2.1.1 k hlt e he))
      have HG9 : Hid (InoOk (p.ino.getD k default) → PlaceR p.ino k (p.ino.getD k default).kd → (∀ e ∈ (p.ino.getD k default).E, e.f0 < I) → ∀ j, j < k + 1 → InoOk (p.ino.getD j default) ∧ PlaceR p.ino j (p.ino.getD j default).kd ∧ ∀ e ∈ (p.ino.getD j default).E, e.f0 < I) := Lib.hid (fun h1 h2 h3 j hj => by
        by_cases e : j = k
        · rw [e]; exact ⟨h1, h2, h3⟩
        · exact HM.out j (by omega))
      have HK0 : Hid (k = 0 → (p.ino.getD k default).kd = 2) := Lib.hid (fun h => by rw [h]; exact P5.out)
      obtain ⟨g', off', a4, c4, a5, c5, ha, hg', d0, d1, d2, d3, d4, d5, r4, r5⟩ := cIno_at (Cel.Rd.later hbel _ _ HS2.out) k hlt
      cases ha
      obtain ⟨x, hx⟩ : ∃ x, p.ino.getD k default = x := ⟨_, rfl⟩
      rw [hx] at d0 d1 d2 d3 d4 d5 r4 r5 HF HSN HI9 HP9 HE9 HG9 HK0
      clear hx
      obtain ⟨kd, hkd⟩ : ∃ y, x.kd = y := ⟨_, rfl⟩
      rw [hkd] at d0 HP9 HG9 HK0
      have HKD := Lib.hid hkd
      clear hkd
      have hbx := below_bk wr (.cells #[.int .i64 kd, .int .i64 x.sz, .int .i64 x.gn, .string x.key, .slice a4 x.R.length c4, .slice a5 x.E.length c5] 57)
      have N2 := Lib.hid (Bk.alloc wr #[.int .i64 kd, .int .i64 x.sz, .int .i64 x.gn, .string x.key, .slice a4 x.R.length c4, .slice a5 x.E.length c5] 57)
      have G3 := Lib.hid (GW.out.later hbx)
      have X3 := Lib.hid (XW.out.later hbx)
      have B3 : Hid (Below w.heap.size w (wr.alloc (.cells #[.int .i64 kd, .int .i64 x.sz, .int .i64 x.gn, .string x.key, .slice a4 x.R.length c4, .slice a5 x.E.length c5] 57))) := Lib.hid (hbel.trans (hbx.mono hbel.size))
      have R4 := Lib.hid (Cel.Rd.later hbx _ _ r4)
      have R5 := Lib.hid (Cel.Rd.later hbx _ _ r5)
      have y2 := XW.out.cell (j := 2) rfl
      clear hbx r4 r5
      have n0 := N2.out.cell (j := 0) rfl
      have n1 := N2.out.cell (j := 1) rfl
      have n2 := N2.out.cell (j := 2) rfl
      have n3 := N2.out.cell (j := 3) rfl
      have n4 := N2.out.cell (j := 4) rfl
      have n5 := N2.out.cell (j := 5) rfl
      go_wp2_with fail
      refine (specIno_any kd x.sz x.gn x.key a4 x.R.length c4 a5 x.E.length c5 _ x.R x.E HF.out.1 (srcRec_of_rd R4.out) HF.out.2.2.2.1 (srcEntry_of_rd R5.out) HF.out.2.2.2.2).mono ?_
      rw [show (⟨kd, x.sz, x.gn, x.key, x.R, x.E⟩ : InoR) = x from by rw [← HKD.out]]
      rintro e w5 ⟨rfl, hb⟩
      have G5 := Lib.hid (G3.out.later hb)
      have X5 := Lib.hid (X3.out.later hb)
      have B5 : Hid (Below w.heap.size w w5) := Lib.hid (B3.out.trans (hb.mono B3.out.size))
      have N5 := Lib.hid (N2.out.later hb)
      have S5 := Lib.hid (Cel.Rd.later hb _ _ R5.out)
      clear hb d0 d1 d2 d3 d4 d5 n0 n1 n2 n3 n4 n5 y2 G3 X3 B3 N2 R4 R5
      by_cases hok : InoOk x
      case neg =>
        rw [inoB_no hok]
        have HC := Lib.hid (decB_no (q := PartOkR T P I Q p) (HI9.out hok))
        go_wp2
        go_ret
        exact ⟨ret_boolo HC.out.symm, B5.out⟩
      rw [inoB_yes hok]
      have HOK := Lib.hid hok
      clear hok
      have hE9 := HF.out.2.2.1
      have hR9 := HF.out.2.1
      have n0 := N5.out.cell (j := 0) rfl
      have y0 := X5.out.cell (j := 0) rfl
      have y1 := X5.out.cell (j := 1) rfl
      have y2 := X5.out.cell (j := 2) rfl
      obtain ⟨m, hm⟩ : ∃ m, cntI (entsOf p.ino) k = m := ⟨_, rfl⟩
      have HMM := Lib.hid hm
      clear hm
      by_cases hk0 : k = 0
      · subst hk0
        go_wp2_with fail
        refine (specLinks_any p a1 c1 _ c2 0 _ (Cel.Rd.later B5.out _ _ HS2.out) HZB.out).mono ?_
        rw [show cntI (entsOf p.ino) 0 = m from HMM.out]
        rintro e w6 ⟨rfl, hb⟩
        have G6 := Lib.hid (G5.out.later hb)
        have X6 := Lib.hid (X5.out.later hb)
        have B6 : Hid (Below w.heap.size w w6) := Lib.hid (B5.out.trans (hb.mono B5.out.size))
        have N6 := Lib.hid (N5.out.later hb)
        have S6 := Lib.hid (Cel.Rd.later hb _ _ S5.out)
        clear hb n0 y0 y1 y2
        by_cases hm : m = 0
        case neg =>
          have hm' : ((m : Int) != 0) = true := by simp; omega
          have HC := Lib.hid (decB_no (q := PartOkR T P I Q p) (HP9.out (fun h => hm (by rw [← HMM.out]; exact (place_zero (fun h => HK0.out (by first | exact h | trivial)) (.inl rfl)).1 h))))
          go_wp2
          go_ret
          exact ⟨ret_boolo HC.out.symm, B6.out⟩
        have HPL : Hid (PlaceR p.ino 0 kd) := Lib.hid ((place_zero (fun h => HK0.out (by first | exact h | trivial)) (.inl rfl)).2 (HMM.out.trans hm))
        subst hm
        go_wp2
        go_loopw [9] (fun jv wq => ∃ (j : Nat), j ≤ x.E.length ∧ jv = .int .i64 j ∧ Hid (∀ t, t < j → (x.E.getD t default).f0 < I) ∧ Below w.heap.size w wq ∧ Hid (Four wq w.heap.size T P I Q 31) ∧ Hid (Bk wq (w.heap.size + 1) #[.int .i64 p.ser, .slice a1 p.st.length c1, .slice (some ⟨g, off, none⟩) p.ino.length c2] 35) ∧ Hid (Bk wq wr.heap.size #[.int .i64 kd, .int .i64 x.sz, .int .i64 x.gn, .string x.key, .slice a4 x.R.length c4, .slice a5 x.E.length c5] 57) ∧ Hid ((celRow cEntry x.E).Rd wq (.slice a5 x.E.length c5))) (fun jv _ => x.E.length - (intOf jv).toNat)
        case atStart => exact ⟨0, Nat.zero_le _, rfl, Lib.hid (fun t ht => by omega), B6.out, G6, X6, N6, S6⟩
        case round =>
          obtain ⟨j, hj, rfl, HJ, hbq, GQ, XQ, NQ, SQ⟩ := hrel
          have n5 := NQ.out.cell (j := 5) rfl
          have n4 := NQ.out.cell (j := 4) rfl
          by_cases hjt : j < x.E.length
          · obtain ⟨ge, oe, ha5, hge, q0, q1⟩ := cEntry_at SQ.out j hjt
            subst ha5
            have HY := Lib.hid (getD_mem hjt)
            have HJ2 : Hid ((x.E.getD j default).f0 < I → ∀ t, t < j + 1 → (x.E.getD t default).f0 < I) := Lib.hid (fun h t ht => by
              by_cases e : t = j
              · rw [e]; exact h
              · exact HJ.out t (by omega))
            obtain ⟨ev, hev⟩ : ∃ e, x.E.getD j default = e := ⟨_, rfl⟩
            rw [hev] at q0 HY HJ2
            clear q1 hev
            have k2 := GQ.out.c2
            by_cases hq : ev.f0 < I
            · have HC := Lib.hid (HJ2.out hq)
              have hq' : ¬ (I ≤ ev.f0) := by omega
              go_wp2
              go_quiet (fail)
              go_wp2
              go_roundw
              case rel => exact ⟨j + 1, by omega, by go_num, HC, below_drewsN hbq _, GQ, XQ, NQ, Lib.hid (Cel.Rd.later (below_drewsN (Below.refl _ _) _) _ _ SQ.out)⟩
              case measure => (simp [intOf]; try omega)
            · have HC := Lib.hid (decB_no (q := PartOkR T P I Q p) (HE9.out ⟨ev, HY.out, by omega⟩))
              have hq' : I ≤ ev.f0 := by omega
              go_wp2
              go_quiet (fail)
              go_wp2
              go_ret
              exact ⟨ret_boolo HC.out.symm, below_drewsN hbq _⟩
          · obtain rfl : j = x.E.length := by omega
            have HC := Lib.hid (HG9.out HOK.out HPL.out (fun e he => by
              obtain ⟨t, ht, rfl⟩ := mem_getD he
              exact HJ.out t ht))
            have HS9 : Hid (rc + x.R.length = sumR (p.ino.take (0 + 1))) := Lib.hid (by rw [HSN.out, ← HRC.out])
            have hs9 : rc + x.R.length ≤ 1048576 := by have := HS9.out; omega
            go_wp2
            go_roundw
            case rel => exact ⟨0 + 1, rc + x.R.length, by omega, by go_num, by go_num, hs9, HS9, HC, hbq, GQ, XQ⟩
            case measure => (simp [intOf]; try omega)
      by_cases hkd : kd = 0
      · subst hkd
        go_wp2_with fail
        refine (specLinks_any p a1 c1 _ c2 k _ (Cel.Rd.later B5.out _ _ HS2.out) HZB.out).mono ?_
        rw [show cntI (entsOf p.ino) (k : Int) = m from HMM.out]
        rintro e w6 ⟨rfl, hb⟩
        have G6 := Lib.hid (G5.out.later hb)
        have X6 := Lib.hid (X5.out.later hb)
        have B6 : Hid (Below w.heap.size w w6) := Lib.hid (B5.out.trans (hb.mono B5.out.size))
        have N6 := Lib.hid (N5.out.later hb)
        have S6 := Lib.hid (Cel.Rd.later hb _ _ S5.out)
        clear hb n0 y0 y1 y2
        by_cases hm : m = 0
        case neg =>
          have hm' : ((m : Int) != 0) = true := by simp; omega
          have HC := Lib.hid (decB_no (q := PartOkR T P I Q p) (HP9.out (fun h => hm (by rw [← HMM.out]; exact (place_zero (fun h => HK0.out (by first | exact h | trivial)) (.inr rfl)).1 h))))
          go_wp2
          go_ret
          exact ⟨ret_boolo HC.out.symm, B6.out⟩
        have HPL : Hid (PlaceR p.ino k 0) := Lib.hid ((place_zero (fun h => HK0.out (by first | exact h | trivial)) (.inr rfl)).2 (HMM.out.trans hm))
        subst hm
        go_wp2
        go_loopw [9] (fun jv wq => ∃ (j : Nat), j ≤ x.E.length ∧ jv = .int .i64 j ∧ Hid (∀ t, t < j → (x.E.getD t default).f0 < I) ∧ Below w.heap.size w wq ∧ Hid (Four wq w.heap.size T P I Q 31) ∧ Hid (Bk wq (w.heap.size + 1) #[.int .i64 p.ser, .slice a1 p.st.length c1, .slice (some ⟨g, off, none⟩) p.ino.length c2] 35) ∧ Hid (Bk wq wr.heap.size #[.int .i64 0, .int .i64 x.sz, .int .i64 x.gn, .string x.key, .slice a4 x.R.length c4, .slice a5 x.E.length c5] 57) ∧ Hid ((celRow cEntry x.E).Rd wq (.slice a5 x.E.length c5))) (fun jv _ => x.E.length - (intOf jv).toNat)
        case atStart => exact ⟨0, Nat.zero_le _, rfl, Lib.hid (fun t ht => by omega), B6.out, G6, X6, N6, S6⟩
        case round =>
          obtain ⟨j, hj, rfl, HJ, hbq, GQ, XQ, NQ, SQ⟩ := hrel
          have n5 := NQ.out.cell (j := 5) rfl
          have n4 := NQ.out.cell (j := 4) rfl
          by_cases hjt : j < x.E.length
          · obtain ⟨ge, oe, ha5, hge, q0, q1⟩ := cEntry_at SQ.out j hjt
            subst ha5
            have HY := Lib.hid (getD_mem hjt)
            have HJ2 : Hid ((x.E.getD j default).f0 < I → ∀ t, t < j + 1 → (x.E.getD t default).f0 < I) := Lib.hid (fun h t ht => by
              by_cases e : t = j
              · rw [e]; exact h
              · exact HJ.out t (by omega))
            obtain ⟨ev, hev⟩ : ∃ e, x.E.getD j default = e := ⟨_, rfl⟩
            rw [hev] at q0 HY HJ2
            clear q1 hev
            have k2 := GQ.out.c2
            by_cases hq : ev.f0 < I
            · have HC := Lib.hid (HJ2.out hq)
              have hq' : ¬ (I ≤ ev.f0) := by omega
              go_wp2
              go_quiet (fail)
              go_wp2
              go_roundw
              case rel => exact ⟨j + 1, by omega, by go_num, HC, below_drewsN hbq _, GQ, XQ, NQ, Lib.hid (Cel.Rd.later (below_drewsN (Below.refl _ _) _) _ _ SQ.out)⟩
              case measure => (simp [intOf]; try omega)
            · have HC := Lib.hid (decB_no (q := PartOkR T P I Q p) (HE9.out ⟨ev, HY.out, by omega⟩))
              have hq' : I ≤ ev.f0 := by omega
              go_wp2
              go_quiet (fail)
              go_wp2
              go_ret
              exact ⟨ret_boolo HC.out.symm, below_drewsN hbq _⟩
          · obtain rfl : j = x.E.length := by omega
            have HC := Lib.hid (HG9.out HOK.out HPL.out (fun e he => by
              obtain ⟨t, ht, rfl⟩ := mem_getD he
              exact HJ.out t ht))
            have HS9 : Hid (rc + x.R.length = sumR (p.ino.take (k + 1))) := Lib.hid (by rw [HSN.out, ← HRC.out])
            have hs9 : rc + x.R.length ≤ 1048576 := by have := HS9.out; omega
            go_wp2
            go_roundw
            case rel => exact ⟨k + 1, rc + x.R.length, by omega, by go_num, by go_num, hs9, HS9, HC, hbq, GQ, XQ⟩
            case measure => (simp [intOf]; try omega)
      have hk0' : ((k : Int) == 0) = false := by simp; omega
      have hkd' : (kd == 0) = false := by simpa using hkd
      go_wp2_with fail
      refine (specLinks_any p a1 c1 _ c2 k _ (Cel.Rd.later B5.out _ _ HS2.out) HZB.out).mono ?_
      rw [show cntI (entsOf p.ino) (k : Int) = m from HMM.out]
      rintro e w6 ⟨rfl, hb⟩
      have G6 := Lib.hid (G5.out.later hb)
      have X6 := Lib.hid (X5.out.later hb)
      have B6 : Hid (Below w.heap.size w w6) := Lib.hid (B5.out.trans (hb.mono B5.out.size))
      have N6 := Lib.hid (N5.out.later hb)
      have S6 := Lib.hid (Cel.Rd.later hb _ _ S5.out)
      clear hb n0 y0 y1 y2
      by_cases hm : m = 1
      case neg =>
        have hm' : ((m : Int) != 1) = true := by simp; omega
        have HC := Lib.hid (decB_no (q := PartOkR T P I Q p) (HP9.out (fun h => hm (by rw [← HMM.out]; exact ((place_one hk0 hkd).1 h).1))))
        go_wp2
        go_ret
        exact ⟨ret_boolo HC.out.symm, B6.out⟩
      subst hm
      obtain ⟨d, hd⟩ : ∃ d, depthZ p.ino k = d := ⟨_, rfl⟩
      have HD := Lib.hid hd
      clear hd
      have y0 := X6.out.cell (j := 0) rfl
      have y1 := X6.out.cell (j := 1) rfl
      have y2 := X6.out.cell (j := 2) rfl
      go_wp2_with fail
      refine (specDepth_any p a1 c1 _ c2 k _ (Cel.Rd.later B6.out _ _ HS2.out) HZB.out).mono ?_
      rw [HD.out]
      rintro e w7 ⟨rfl, hb⟩
      have G7 := Lib.hid (G6.out.later hb)
      have X7 := Lib.hid (X6.out.later hb)
      have B7 : Hid (Below w.heap.size w w7) := Lib.hid (B6.out.trans (hb.mono B6.out.size))
      have N7 := Lib.hid (N6.out.later hb)
      have S7 := Lib.hid (Cel.Rd.later hb _ _ S6.out)
      clear hb y0 y1 y2
      by_cases hdn : d < 0
      case pos =>
        have HC := Lib.hid (decB_no (q := PartOkR T P I Q p) (HP9.out (fun h => ((place_one hk0 hkd).1 h).2 (by rw [HD.out]; exact hdn))))
        go_wp2
        go_ret
        exact ⟨ret_boolo HC.out.symm, B7.out⟩
      have HPL : Hid (PlaceR p.ino k kd) := Lib.hid ((place_one hk0 hkd).2 ⟨HMM.out, by rw [HD.out]; exact hdn⟩)
      go_wp2
      go_loopw [9] (fun jv wq => ∃ (j : Nat), j ≤ x.E.length ∧ jv = .int .i64 j ∧ Hid (∀ t, t < j → (x.E.getD t default).f0 < I) ∧ Below w.heap.size w wq ∧ Hid (Four wq w.heap.size T P I Q 31) ∧ Hid (Bk wq (w.heap.size + 1) #[.int .i64 p.ser, .slice a1 p.st.length c1, .slice (some ⟨g, off, none⟩) p.ino.length c2] 35) ∧ Hid (Bk wq wr.heap.size #[.int .i64 kd, .int .i64 x.sz, .int .i64 x.gn, .string x.key, .slice a4 x.R.length c4, .slice a5 x.E.length c5] 57) ∧ Hid ((celRow cEntry x.E).Rd wq (.slice a5 x.E.length c5))) (fun jv _ => x.E.length - (intOf jv).toNat)
      case atStart => exact ⟨0, Nat.zero_le _, rfl, Lib.hid (fun t ht => by omega), B7.out, G7, X7, N7, S7⟩
      case round =>
        obtain ⟨j, hj, rfl, HJ, hbq, GQ, XQ, NQ, SQ⟩ := hrel
        have n5 := NQ.out.cell (j := 5) rfl
        have n4 := NQ.out.cell (j := 4) rfl
        by_cases hjt : j < x.E.length
        · obtain ⟨ge, oe, ha5, hge, q0, q1⟩ := cEntry_at SQ.out j hjt
          subst ha5
          have HY := Lib.hid (getD_mem hjt)
          have HJ2 : Hid ((x.E.getD j default).f0 < I → ∀ t, t < j + 1 → (x.E.getD t default).f0 < I) := Lib.hid (fun h t ht => by
            by_cases e : t = j
            · rw [e]; exact h
            · exact HJ.out t (by omega))
          obtain ⟨ev, hev⟩ : ∃ e, x.E.getD j default = e := ⟨_, rfl⟩
          rw [hev] at q0 HY HJ2
          clear q1 hev
          have k2 := GQ.out.c2
          by_cases hq : ev.f0 < I
          · have HC := Lib.hid (HJ2.out hq)
            have hq' : ¬ (I ≤ ev.f0) := by omega
            go_wp2
            go_quiet (fail)
            go_wp2
            go_roundw
            case rel => exact ⟨j + 1, by omega, by go_num, HC, below_drewsN hbq _, GQ, XQ, NQ, Lib.hid (Cel.Rd.later (below_drewsN (Below.refl _ _) _) _ _ SQ.out)⟩
            case measure => (simp [intOf]; try omega)
          · have HC := Lib.hid (decB_no (q := PartOkR T P I Q p) (HE9.out ⟨ev, HY.out, by omega⟩))
            have hq' : I ≤ ev.f0 := by omega
            go_wp2
            go_quiet (fail)
            go_wp2
            go_ret
            exact ⟨ret_boolo HC.out.symm, below_drewsN hbq _⟩
        · obtain rfl : j = x.E.length := by omega
          have HC := Lib.hid (HG9.out HOK.out HPL.out (fun e he => by
            obtain ⟨t, ht, rfl⟩ := mem_getD he
            exact HJ.out t ht))
          have HS9 : Hid (rc + x.R.length = sumR (p.ino.take (k + 1))) := Lib.hid (by rw [HSN.out, ← HRC.out])
          have hs9 : rc + x.R.length ≤ 1048576 := by have := HS9.out; omega
          go_wp2
          go_roundw
          case rel => exact ⟨k + 1, rc + x.R.length, by omega, by go_num, by go_num, hs9, HS9, HC, hbq, GQ, XQ⟩
          case measure => (simp [intOf]; try omega)
    · obtain rfl : k = p.ino.length := by omega
      have h9 := HM.out
      have h8 := HRC.out
      rw [List.take_length] at h8
      have HIN9 : Hid (InosR p.ino) := Lib.hid (fun j hj => (h9 j hj).1)
      have HLN9 : Hid (LinksR p.ino) := Lib.hid ⟨(ents_all P4.out HIN9.out).2 (fun j hj => (h9 j hj).2.2), fun j hj => (h9 j hj).2.1⟩
      have HRS : Hid (rc = (recsOf p.ino).length) := Lib.hid (by rw [h8]; exact sumR_eq p.ino (inosR_all HIN9.out))
      clear h9 h8 HM HRC
      have y1 := XW.out.cell (j := 1) rfl
      have y2 := XW.out.cell (j := 2) rfl
      obtain ⟨U, hU⟩ : ∃ U, withSt p.st 2 p.st.length = U := ⟨_, rfl⟩
      have HU := Lib.hid hU
      have hUl : U.length ≤ 1048576 := by rw [← hU]; have := withSt_len p.st 2 p.st.length; omega
      clear hU
      go_wp2_with fail
      refine (specPagesWith_any a1 p.st.length c1 p.st 2 _ (srcI_of_rd (Cel.Rd.later hbel _ _ HS1.out)) (by omega)).mono ?_
      rw [HU.out]
      rintro e w8 ⟨v, rfl, ho, hb⟩
      have G8 := Lib.hid (GW.out.later hb)
      have X8 := Lib.hid (XW.out.later hb)
      have B8 : Hid (Below w.heap.size w w8) := Lib.hid (hbel.trans (hb.mono hbel.size))
      obtain ⟨a, c, rfl, _⟩ := ownE_form ho
      have HR := Lib.hid (srcI_of_own ho)
      clear hb y1 y2 ho
      go_wp2
      go_loopw [11] (fun jv wq => ∃ (j : Nat), j ≤ U.length ∧ jv = .int .i64 j ∧ Hid (∀ t, t < j → cntP (recsOf p.ino) (U.getD t 0) = 1) ∧ Below w.heap.size w wq ∧ Hid (Four wq w.heap.size T P I Q 31) ∧ Hid (Bk wq (w.heap.size + 1) #[.int .i64 p.ser, .slice a1 p.st.length c1, .slice (some ⟨g, off, none⟩) p.ino.length c2] 35) ∧ Hid (SrcI wq a U.length U)) (fun jv _ => U.length - (intOf jv).toNat)
      case atStart => exact ⟨0, Nat.zero_le _, rfl, Lib.hid (fun t ht => by omega), B8.out, G8, X8, HR⟩
      case round =>
        clear G8 X8 B8 HR
        obtain ⟨j, hj, rfl, HJ, hbq, GQ, XQ, HR⟩ := hrel
        by_cases hjt : j < U.length
        · have HUM : Hid (U.getD j 0 ∈ withSt p.st 2 p.st.length) := Lib.hid (by rw [HU.out]; exact getD_mem hjt)
          have HJ2 : Hid (cntP (recsOf p.ino) (U.getD j 0) = 1 → ∀ t, t < j + 1 → cntP (recsOf p.ino) (U.getD t 0) = 1) := Lib.hid (fun h t ht => by
            by_cases e : t = j
            · rw [e]; exact h
            · exact HJ.out t (by omega))
          obtain ⟨gu, ou, ha9, hgu, q0⟩ := HR.out.cell j hjt
          subst ha9
          obtain ⟨pg, hpg⟩ : ∃ y, U.getD j 0 = y := ⟨_, rfl⟩
          rw [hpg] at q0 HUM HJ2
          clear hpg
          have HPG : Hid (0 ≤ pg ∧ pg ≤ 1000000) := Lib.hid (by
            obtain ⟨t, ht, _, e⟩ := withSt_mem.1 HUM.out
            have := P3.out
            obtain ⟨_, h1, _, h2⟩ := this
            omega)
          have HN9 : Hid (¬ cntP (recsOf p.ino) pg = 1 → ¬ PartOkR T P I Q p) := Lib.hid (fun h h9 => h (users_one h9.2.2.2.2.2.2.1 HUM.out))
          obtain ⟨m, hm⟩ : ∃ m, cntP (recsOf p.ino) pg = m := ⟨_, rfl⟩
          have HMM := Lib.hid hm
          rw [hm] at HJ2 HN9
          clear hm
          go_wp2
          have XD := Lib.hid XQ.out.drew
          have GD := Lib.hid GQ.out.drew
          have BD := Lib.hid hbq.drew
          have QD : Hid (SrcI wr.drew (some ⟨gu, ou, none⟩) U.length U) := Lib.hid (HR.out.later (Below.refl _ _).drew)
          have qd : wr.drew.cell? ⟨gu, ou + j, none⟩ = some (.int .i64 pg) := q0
          have HQE : Hid (∀ W, Below wr.drew.heap.size wr.drew W → W.cell? ⟨gu, ou + j, none⟩ = some (.int .i64 pg)) := Lib.hid (fun W hW => (hW.cell (p := ⟨gu, ou + j, none⟩) hgu).trans q0)
          go_region_held3 (fun w' => w'.cell? ⟨w.heap.size + 1, 0, none⟩ = some (.int .i64 p.ser) ∧ w'.cell? ⟨w.heap.size + 1, 1, none⟩ = some (.slice a1 p.st.length c1) ∧ w'.cell? ⟨w.heap.size + 1, 2, none⟩ = some (.slice (some ⟨g, off, none⟩) p.ino.length c2) ∧ w'.cell? ⟨gu, ou + j, none⟩ = some (.int .i64 pg))
            (first
              | exact ⟨XD.out.cell rfl, XD.out.cell rfl, XD.out.cell rfl, qd⟩
              | exact ⟨XE.out.cell rfl, XE.out.cell rfl, XE.out.cell rfl, qe2⟩
              | go_keep)
            (first | (go_at_call 45; (with_reducible refine (specUsers_any p a1 c1 _ c2 pg _ (Cel.Rd.later BD.out _ _ HS2.out) HZB.out HT.out HPG.out).mono ?_); rw [HMM.out]; rintro e w9 ⟨rfl, hb⟩; have XE := Lib.hid (XD.out.later hb); have GE := Lib.hid (GD.out.later hb); have BE : Hid (Below w.heap.size w w9) := Lib.hid (BD.out.trans (hb.mono BD.out.size)); have RE := Lib.hid (QD.out.later hb); have qe2 := HQE.out _ hb; clear hb))
          clear qd qe2 q0
          by_cases hm : m = 1
          · have HC := Lib.hid (HJ2.out hm)
            subst hm
            go_wp2
            go_roundw
            case rel => exact ⟨j + 1, by omega, by go_num, HC, BE.out, GE, XE, RE⟩
            case measure => (simp [intOf]; try omega)
          · have hm' : ((m : Int) != 1) = true := by simp; omega
            have HC := Lib.hid (decB_no (HN9.out hm))
            go_wp2
            go_ret
            exact ⟨ret_boolo HC.out.symm, BE.out⟩
        · obtain rfl : j = U.length := by omega
          have HONE : Hid (∀ x ∈ withSt p.st 2 p.st.length, cntP (recsOf p.ino) x = 1) := Lib.hid (fun x hx => by
            rw [HU.out] at hx
            obtain ⟨t, ht, rfl⟩ := mem_getD hx
            exact HJ.out t ht)
          have HIFF : Hid (PartOkR T P I Q p ↔ (U.length = rc ∧ (U.length : Int) ≤ Q)) := Lib.hid (by
            have h9 := users_iff p.ino p.st (recs_pos HIN9.out) HONE.out
            rw [HU.out, ← HRS.out] at h9
            unfold PartOkR
            rw [h9, HU.out]
            exact ⟨fun h => ⟨h.2.2.2.2.2.2.1, h.2.2.2.2.2.2.2⟩, fun h => ⟨P1.out, P2.out, P3.out, P4.out, HIN9.out, HLN9.out, h.1, h.2⟩⟩)
          have k3 := GQ.out.c3
          by_cases hq1 : U.length = rc
          · have hq1' : ((U.length : Int) == (rc : Int)) = true := by simp; omega
            by_cases hq2 : (U.length : Int) ≤ Q
            · have HC := Lib.hid (decB_yes (HIFF.out.2 ⟨hq1, hq2⟩))
              go_wp2
              go_ret
              exact ⟨ret_boolo (by rw [HC.out]; first | rfl | exact decide_eq_true (by omega)), hbq⟩
            · have HC := Lib.hid (decB_no (fun h => hq2 (HIFF.out.1 h).2))
              have hq2' : decide ((U.length : Int) ≤ Q) = false := decide_eq_false hq2
              go_wp2
              go_ret
              exact ⟨ret_boolo (by rw [HC.out]; first | rfl | exact hq2' | exact decide_eq_false (by omega)), hbq⟩
          · have hq1' : ((U.length : Int) == (rc : Int)) = false := by simp; omega
            have HC := Lib.hid (decB_no (fun h => hq1 (HIFF.out.1 h).1))
            go_wp2
            go_ret
            exact ⟨ret_boolo HC.out.symm, hbq⟩
end Go.Proofs.YtmkchilhnmkhkabGreat
namespace Go.Proofs.YtmkchilhnmkhkabGreat
open Go.RowKit

set_option maxRecDepth 100000 in
set_option maxHeartbeats 1000000 in
theorem specCommit_any (T P I Q : Int) (t : Int) (w : World) : Calls Tryz.prog 20 #[.agg #[.int .i64 T, .int .i64 P, .int .i64 I, .int .i64 Q], .int .i64 t] w (SaysI (placeV T P I Q t 0) w) := by
  have T0 := Lib.hid (Four.alloc w T P I Q 31)
  have B0 := Lib.hid (below_al w (.cells #[.int .i64 T, .int .i64 P, .int .i64 I, .int .i64 Q] 31))
  go_enter Tryz.func20, Tryz.ntmps20
  go_wp2_with fail
  refine (specAt_any T P I Q t (0) (fun _ => by omega) _).mono ?_
  rintro e w8 ⟨rfl, hb⟩
  have B8 : Hid (Below w.heap.size w w8) := Lib.hid (B0.out.trans (hb.mono B0.out.size))
  clear hb
  obtain ⟨v, hv⟩ : ∃ v, placeV T P I Q t (0) = v := ⟨_, rfl⟩
  rw [hv]
  have HV := Lib.hid hv
  clear hv
  go_wp2
  go_ret
  exact ⟨by rw [HV.out]; rfl, B8.out⟩
end Go.Proofs.YtmkchilhnmkhkabGreat
namespace Go.Proofs.YtmkchilhnmkhkabGreat
open Go.RowKit Go.Proofs.YtmkchilhnmkhkabGreat.Parts Go.Proofs.YtmkchilhnmkhkabGreat.Hexa Go.Proofs.YtmkchilhnmkhkabGreat.Byt

set_option maxRecDepth 100000 in
set_option maxHeartbeats 4000000 in
theorem specPW_any (T P I Q t : Int) (p : PartR) (a1 : Option Addr) (c1 : Nat) (a2 : Option Addr) (c2 : Nat) (w : World) (h1 : (celRow cInt p.st).Rd w (.slice a1 p.st.length c1)) (h2 : (celRow cIno p.ino).Rd w (.slice a2 p.ino.length c2)) (hz : szL (cPart.cels p) ≤ 1048576) (ht : TyL (celsE cIno p.ino)) :
    Calls Tryz.prog 6 #[.agg #[.int .i64 T, .int .i64 P, .int .i64 I, .int .i64 Q], .int .i64 t, .agg #[.int .i64 p.ser, .slice a1 p.st.length c1, .slice a2 p.ino.length c2]] w (GivesPS (pwR T P I Q t p) w) := by
  have hb1 := below_bk w (.cells #[.int .i64 T, .int .i64 P, .int .i64 I, .int .i64 Q] 31)
  have hb2 := below_bk (w.alloc (.cells #[.int .i64 T, .int .i64 P, .int .i64 I, .int .i64 Q] 31)) (.cells #[.int .i64 p.ser, .slice a1 p.st.length c1, .slice a2 p.ino.length c2] 35)
  have B0 := Lib.hid (hb1.trans (hb2.mono hb1.size))
  have G0 := Lib.hid ((Four.alloc w T P I Q 31).later hb2)
  have X0 : Hid (Bk ((w.alloc (.cells #[.int .i64 T, .int .i64 P, .int .i64 I, .int .i64 Q] 31)).alloc (.cells #[.int .i64 p.ser, .slice a1 p.st.length c1, .slice a2 p.ino.length c2] 35)) (w.heap.size + 1) #[.int .i64 p.ser, .slice a1 p.st.length c1, .slice a2 p.ino.length c2] 35) := Lib.hid (by
    have h := (Bk.alloc (w.alloc (.cells #[.int .i64 T, .int .i64 P, .int .i64 I, .int .i64 Q] 31)) #[.int .i64 p.ser, .slice a1 p.st.length c1, .slice a2 p.ino.length c2] 35)
    simpa using h)
  have HS1 := Lib.hid h1
  have HS2 := Lib.hid h2
  have HZ := Lib.hid hz
  have HT := Lib.hid ht
  clear h1 h2 hz ht hb1 hb2
  obtain ⟨b, e1⟩ : ∃ b, ptB T P I Q p = b := ⟨_, rfl⟩
  obtain ⟨z, hz⟩ : ∃ z, placeV T P I Q t 0 = z := ⟨_, rfl⟩
  have HZP := Lib.hid hz
  have E1 := Lib.hid e1
  have HYES : Hid (b = true → ¬ z < 0 → PartOkR T P I Q p ∧ TenR T t) := Lib.hid (fun hb h0 => by
    rw [hb] at e1
    have h1 : PartOkR T P I Q p := decB_iff.1 e1
    refine ⟨h1, ?_⟩
    by_cases h : GeoR T P I Q ∧ 0 ≤ t ∧ t ≤ T - 1
    · exact h.2
    · exact absurd (by rw [← hz, placeV_no h]; omega) h0)
  have HNO : Hid (b = false ∨ z < 0 → ¬ (PartOkR T P I Q p ∧ TenR T t)) := Lib.hid (fun h hy => by
    rcases h with h | h
    · rw [show ptB T P I Q p = true from decB_yes hy.1, h] at e1; cases e1
    · have := place_nn (T := T) (P := P) (I := I) (Q := Q) (t := t) 0 ⟨hy.1.1, hy.2⟩ (by omega)
      omega)
  clear e1 hz
  have k0 := G0.out.c0
  have k1 := G0.out.c1
  have k2 := G0.out.c2
  have k3 := G0.out.c3
  have y0 := X0.out.cell (j := 0) rfl
  have y1 := X0.out.cell (j := 1) rfl
  have y2 := X0.out.cell (j := 2) rfl
  go_enter Tryz.func6, Tryz.ntmps6
  go_wp2_with fail
  refine (specPartOk_any T P I Q p a1 c1 a2 c2 _ (Cel.Rd.later B0.out _ _ HS1.out) (Cel.Rd.later B0.out _ _ HS2.out) HZ.out HT.out).mono ?_
  rw [E1.out]
  rintro e w1 ⟨rfl, hb⟩
  have G1 := Lib.hid (G0.out.later hb)
  have X1 := Lib.hid (X0.out.later hb)
  have B1 : Hid (Below w.heap.size w w1) := Lib.hid (B0.out.trans (hb.mono B0.out.size))
  clear hb k0 k1 k2 k3 y0 y1 y2
  cases b with
  | false =>
    have HR := Lib.hid (pwR_no (HNO.out (.inl rfl)))
    have HO : Hid ((w1.alloc (.cells #[] 62)).ownsRow w.heap.size 62 2 (.slice (some ⟨w1.heap.size, 0, none⟩) 0 0) ([] : List WriteR).length (cellsE encW [])) := Lib.hid (World.ownsRow_lit (base := w.heap.size) (e := 62) (size := 2) w1 #[] 0 B1.out.size (by decide) rfl)
    have HB := Lib.hid (B1.out.trans ((below_bk w1 (.cells #[] 62)).mono B1.out.size))
    go_wp2
    go_ret
    exact ⟨_, rfl, by rw [HR.out]; exact HO.out, HB.out⟩
  | true =>
    have k0 := G1.out.c0
    have k1 := G1.out.c1
    have k2 := G1.out.c2
    have k3 := G1.out.c3
    have y0 := X1.out.cell (j := 0) rfl
    have y1 := X1.out.cell (j := 1) rfl
    have y2 := X1.out.cell (j := 2) rfl
    go_wp2_with fail
    refine (specCommit_any T P I Q t _).mono ?_
    rw [HZP.out]
    rintro e w2 ⟨rfl, hb⟩
    have G2 := Lib.hid (G1.out.later hb)
    have X2 := Lib.hid (X1.out.later hb)
    have B2 : Hid (Below w.heap.size w w2) := Lib.hid (B1.out.trans (hb.mono B1.out.size))
    clear hb k0 k1 k2 k3 y0 y1 y2
    by_cases hneg : z < 0
    · have HR := Lib.hid (pwR_no (HNO.out (.inr hneg)))
      have HO : Hid ((w2.alloc (.cells #[] 62)).ownsRow w.heap.size 62 2 (.slice (some ⟨w2.heap.size, 0, none⟩) 0 0) ([] : List WriteR).length (cellsE encW [])) := Lib.hid (World.ownsRow_lit (base := w.heap.size) (e := 62) (size := 2) w2 #[] 0 B2.out.size (by decide) rfl)
      have HB := Lib.hid (B2.out.trans ((below_bk w2 (.cells #[] 62)).mono B2.out.size))
      go_wp2
      go_ret
      exact ⟨_, rfl, by rw [HR.out]; exact HO.out, HB.out⟩
    · have HY := Lib.hid (HYES.out (by trivial) (by omega))
      have HR := Lib.hid (pwR_yes HY.out)
      have k0 := G2.out.c0
      have k1 := G2.out.c1
      have k2 := G2.out.c2
      have k3 := G2.out.c3
      have y0 := X2.out.cell (j := 0) rfl
      have y1 := X2.out.cell (j := 1) rfl
      have y2 := X2.out.cell (j := 2) rfl
      go_wp2_with fail
      refine (specWrites_any T P I Q t p a1 c1 a2 c2 _ (Cel.Rd.later B2.out _ _ HS1.out) (Cel.Rd.later B2.out _ _ HS2.out) HZ.out HT.out HY.out).mono ?_
      rintro e w3 ⟨v3, rfl, ho, hb⟩
      have HO := Lib.hid (ownE_mono ho B2.out.size)
      have HB := Lib.hid (B2.out.trans (hb.mono B2.out.size))
      clear ho hb k0 k1 k2 k3 y0 y1 y2
      go_wp2
      go_ret
      exact ⟨_, rfl, by rw [HR.out]; exact HO.out, HB.out⟩
end Go.Proofs.YtmkchilhnmkhkabGreat
