/- The program's page states: StatesWords. -/
import Derived.Test.YtppdjhchangikaaStImpl
import Derived.Test.YtppdjhchangikaaStSpecD
import Derived.Test.YtppdjhchangikaaWordsImpl
import Derived.Test.YtppdjhchangikaaBk
namespace Go.Proofs.Ytppdjhchangikaa
open Go.RowKit Go.Lib Go.Proofs.Ytppdjhchangikaa.Parts Go.Proofs.Ytppdjhchangikaa.Hexa Go.Proofs.Ytppdjhchangikaa.Byt

theorem own_mono1 {w : World} {B B' e : Nat} {v : Value} {n : Nat} {xs : List Value} (h : w.ownsRow B e 1 v n xs) (hb : B' ≤ B) : w.ownsRow B' e 1 v n xs := by
  refine ⟨h.1, ?_⟩
  rcases h.2 with h2 | ⟨g, cap, cur, h1, h2, h3⟩
  · exact .inl h2
  · exact .inr ⟨g, cap, cur, h1, Nat.le_trans hb h2, h3⟩
/-- A text copied over some bytes from place o on, over m bytes at most. -/
def ovT (l : List UInt8) (o m : Nat) (s : ByteArray) : List UInt8 := l.take o ++ (s.extract 0 (min s.size m)).data.toList ++ l.drop (o + min s.size m)
theorem ex_len (s : ByteArray) (m : Nat) : (s.extract 0 (min s.size m)).size = min s.size m := by simp
theorem ovT_len (l : List UInt8) (o m : Nat) (s : ByteArray) (h : o + m ≤ l.length) : (ovT l o m s).length = l.length := by
  have h1 := ex_len s m
  have h2 : (s.extract 0 (min s.size m)).data.toList.length = min s.size m := by rw [Array.length_toList]; exact h1
  unfold ovT
  rw [List.length_append, List.length_append, h2, List.length_take, List.length_drop]
  omega
theorem bytes_copy_at {P : Program} {t e e' u ty : TypeId} {i : TypeInfo} (ht : P.underlying t = some (.slice e')) (hi : P.info? e' = some i) (hs1 : i.size = 1)
    {w : World} {B g c n : Nat} {l : List UInt8} (hn : l.length = n) (h : Bytes w B e (.slice (some ⟨g, 0, none⟩) n c) l) (o m c' : Nat) (hom : o + m ≤ n) (s : ByteArray) :
    ∃ r w', (Builtin.copy_ #[t, u] ty #[.slice (some ⟨g, o, none⟩) m c', .string s]).run P w = .ok r w' ∧ Bytes w' B e (.slice (some ⟨g, 0, none⟩) n c) (ovT l o m s) ∧ Below B w w' := by
  subst hn
  have hln := ovT_len l o m s hom
  obtain ⟨x, hx⟩ : ∃ x, s.extract 0 (min s.size m) = x := ⟨_, rfl⟩
  have hxs : x.size = min s.size m := by rw [← hx]; exact ex_len s m
  rcases h with ⟨h, _⟩ | ⟨g', cap, cur, fz, hv, hb, hg, hfz, hlc, hm, hcs, htk⟩
  · cases h
  · simp at hv
    obtain ⟨rfl, rfl⟩ := hv
    have hst := Byt.run_store P g o e fz (strCells x) 0 cur w hg hfz (by rw [strCells_length]; omega) (strCells_oneCell x)
    have hf : (Builtin.firstCells 1 (min s.size m) (.string s)).run P w = .ok (strCells x).toArray w := by
      simp [Builtin.firstCells, strCells, hx]
      apply Array.ext'
      simp
    simp only [Nat.add_zero, strCells_length] at hst
    refine ⟨goInt ((min s.size m : Nat) : Int), w.setRow g (List.take o cur.toList ++ strCells x ++ List.drop (o + x.size) cur.toList).toArray, ?_, .inr ⟨g, c, (List.take o cur.toList ++ strCells x ++ List.drop (o + x.size) cur.toList).toArray, fz, by rw [hln], hb, setRow_heap w g cur _ e fz hg, ?_, by rw [hln]; exact hlc, hm, ?_, ?_⟩, Byt.below_setRow w hb _⟩
    · have hmm : ∀ a b : Nat, Nat.min a b = min a b := fun _ _ => rfl
      simp [Builtin.copy_, run_underlying ht, Builtin.lenOf, sizeOf, typeInfo, hi, hs1, hmm, hf, hst]
    · have hz : (List.take o cur.toList ++ strCells x ++ List.drop (o + x.size) cur.toList).toArray.size = cur.size := by simp [strCells_length]; omega
      rw [hz]; exact hfz
    · simp [strCells_length]; omega
    · rw [hln]
      have e1 : strCells x = bcells x.data.toList := rfl
      have e2 : List.take o cur.toList = bcells (l.take o) := by
        have : bcells (l.take o) = (bcells l).take o := by simp [bcells]
        rw [this, ← htk, List.take_take, Nat.min_eq_left (by omega)]
      have e3 : bcells (l.drop (o + x.size)) = (List.drop (o + x.size) cur.toList).take (l.length - (o + x.size)) := by
        have : bcells (l.drop (o + x.size)) = (bcells l).drop (o + x.size) := by simp [bcells]
        rw [this, ← htk, List.drop_take]
      unfold ovT
      rw [hx, ← hxs, bcells_append, bcells_append, e1, e2, e3]
      have e4 : l.length = (bcells (l.take o) ++ bcells x.data.toList).length + (l.length - (o + x.size)) := by
        rw [List.length_append, bcells_length, bcells_length, List.length_take]; simp; omega
      show List.take l.length _ = _
      conv => lhs; rw [e4]
      rw [List.take_length_add_append]

theorem bytes_all_text {P : Program} {w : World} {B e e' g c : Nat} {l : List UInt8} (src dst : TypeId)
    (hs : P.underlying src = some (.slice e')) (he : P.underlying e' = some (.int .u8)) (hd : P.underlying dst = some .string) {n : Nat} (hn : l.length = n)
    (h : Bytes w B e (.slice (some ⟨g, 0, none⟩) n c) l) (c' : Nat) :
    (convert src dst (.slice (some ⟨g, 0, none⟩) n c')).run P w = .ok (.string ⟨l.toArray⟩) w := by
  subst hn
  exact run_convert_bytes_back (P := P) w src dst e' ⟨g, 0, none⟩ c' l hs he hd (fun j hj => by
    have h1 := (bytes_at h j hj).1
    have hadd : (⟨g, 0, none⟩ : Addr).add j = ⟨g, j, none⟩ := by unfold Addr.add; split <;> simp_all
    rw [hadd, h1])

/-- A fresh array of sixteen bytes. -/
theorem zero16 (w : World) {B : Nat} (hB : B ≤ w.heap.size) (T : TypeId) :
    Bytes (w.alloc (.cells #[.int .u8 0, .int .u8 0, .int .u8 0, .int .u8 0, .int .u8 0, .int .u8 0, .int .u8 0, .int .u8 0, .int .u8 0, .int .u8 0, .int .u8 0, .int .u8 0, .int .u8 0, .int .u8 0, .int .u8 0, .int .u8 0] T)) B T (.slice (some ⟨w.heap.size, 0, none⟩) 16 16) (partB [] 16) :=
  bytes_of_own (l := partB [] 16) (World.ownsRow_lit (e := T) (size := 1) (base := B) w #[.int .u8 0, .int .u8 0, .int .u8 0, .int .u8 0, .int .u8 0, .int .u8 0, .int .u8 0, .int .u8 0, .int .u8 0, .int .u8 0, .int .u8 0, .int .u8 0, .int .u8 0, .int .u8 0, .int .u8 0, .int .u8 0] 16 hB (by decide) rfl)

theorem words16 {l : List UInt8} (h : l.length = 16) : wordsL ⟨l.toArray⟩ = [cutSt l 0, cutSt l 8] := by
  have hs : (⟨l.toArray⟩ : ByteArray).size = 16 := by show l.toArray.size = 16; simp [h]
  have hw : ∀ o, o + 8 ≤ 16 → wordB ((⟨l.toArray⟩ : ByteArray).extract o (o + 8)) = cutSt l o := by
    intro o ho
    have h8 : ((⟨l.toArray⟩ : ByteArray).extract o (o + 8)).size = 8 := by simp [hs]; omega
    unfold wordB
    rw [if_pos (by omega), h8]
    apply ByteArray.ext
    apply Array.ext'
    simp [longB, cutSt]
  unfold wordsL wordsN
  rw [hs]
  show [wordAt _ 0, wordAt _ 1] = _
  unfold wordAt
  rw [hs]
  rw [show min (8 * 0 + 8) 16 = 0 + 8 from rfl, show min (8 * 1 + 8) 16 = 8 + 8 from rfl, show 8 * 0 = 0 from rfl, show 8 * 1 = 8 from rfl, hw 0 (by omega), hw 8 (by omega)]

set_option maxRecDepth 100000 in
set_option maxHeartbeats 1000000 in
theorem implStWords_any (a : Option Addr) (n c : Nat) (zs : List Int) (w : World) (hs : SrcI w a n zs) (hn : n ≤ 2000000) :
    Calls Try.prog 16 #[.slice a n c] w (GivesT (stWords zs) w) := by
  have HL := Lib.hid hs.len
  have HS := Lib.hid hs
  clear hs
  by_cases hok : StOk zs n
  · have HB := Lib.hid (stB_yes hok)
    have HW : Hid (stWords zs = [cutSt (partB (stT zs) 16) 0, cutSt (partB (stT zs) 16) 8]) := Lib.hid (stWords_yes (by rw [HL.out]; exact hok))
    have h12 : n ≤ 12 := by have := hok.2.2.2; omega
    have HR : Hid (StR zs n) := Lib.hid (by rw [← HL.out]; exact hok.1)
    clear hok
    go_enter Try.func16, Try.ntmps16
    go_wp2_with fail
    refine (implStOk_any a n c zs n _ HS.out hn).mono ?_
    rw [HB.out]
    rintro e w1 ⟨rfl, rfl⟩
    have HG0 : Hid (Below w1.heap.size w1 (w1.alloc (.cells #[.int .u8 0, .int .u8 0, .int .u8 0, .int .u8 0, .int .u8 0, .int .u8 0, .int .u8 0, .int .u8 0, .int .u8 0, .int .u8 0, .int .u8 0, .int .u8 0, .int .u8 0, .int .u8 0, .int .u8 0, .int .u8 0] 51))) := Lib.hid ((Below.refl _ _).alloc (Nat.le_refl _) _)
    have HO0 := Lib.hid (zero16 w1 (B := w1.heap.size) (Nat.le_refl _) 51)
    go_wp2
    go_loopw [13] (fun iv wr => ∃ k : Nat, k ≤ n ∧ iv = .int .i64 k ∧ Hid (Bytes wr w1.heap.size 51 (.slice (some ⟨w1.heap.size, 0, none⟩) 16 16) (partB (stT (zs.take k)) 16)) ∧ Hid (Below w1.heap.size w1 wr)) (fun iv _ => n - (intOf iv).toNat)
    case atStart => exact ⟨0, Nat.zero_le _, rfl, HO0, HG0⟩
    case round =>
      obtain ⟨k, hk, rfl, HO, HG⟩ := hrel
      clear HO0 HG0
      have hl : (stT (zs.take k)).length = k := by rw [stT_len, List.length_take, HL.out]; omega
      by_cases hlt : k < n
      · obtain ⟨g, off, rfl, hg, d⟩ := HS.out.cell k hlt
        have d0 : wr.cell? ⟨g, off + k, none⟩ = some (.int .i64 (zs.getD k 0)) := by rw [HG.out.cell hg]; exact d
        have HX := Lib.hid (HR.out k hlt)
        have HE := Lib.hid (stT_succ (zs := zs) (k := k) (by rw [HL.out]; exact hlt))
        have hby := st_byte HX.out
        obtain ⟨⟨u, c3⟩, z3, _⟩ := part_at HO.out (by omega)
        have N3 := part_next HO.out (UInt8.ofNat (zs.getD k 0).toNat) (by omega)
        rw [hl] at c3 z3 N3
        rw [← HE.out] at N3
        obtain ⟨x, hx⟩ : ∃ x, zs.getD k 0 = x := ⟨_, rfl⟩
        rw [hx] at d0 hby N3
        clear hx d
        generalize UInt8.ofNat x.toNat = z at hby N3
        have N4 := Lib.hid N3
        have HG2 : Hid (Below w1.heap.size w1 (wr.setCell ⟨w1.heap.size, k, none⟩ (.int .u8 (z.toNat : Int)))) := Lib.hid (HG.out.setCell (Nat.le_refl _) _)
        have hb1 : ¬ g = w1.heap.size := by omega
        have hk16 : (k : Int) < 16 := by omega
        clear N3 hl HX HE
        go_wp2
        go_roundw
        case rel => exact ⟨k + 1, by omega, by go_num, N4, HG2⟩
        case measure => (simp [intOf]; try omega)
      · obtain rfl : n = k := by omega
        rw [show zs.take n = zs by rw [← HL.out, List.take_length]] at HO hl
        have hpl := partB_length (stT zs) 16 (by omega)
        have HC := bytes_all_text (P := Try.prog) 22 9 Try.underlying22 Try.underlying5 Try.underlying9 hpl HO.out 16
        have HWL := Lib.hid (words16 hpl)
        have HSZ : Hid ((⟨(partB (stT zs) 16).toArray⟩ : ByteArray).size = 16) := Lib.hid (by show (partB (stT zs) 16).toArray.size = 16; rw [List.size_toArray, hpl])
        obtain ⟨S, hS⟩ : ∃ S, (⟨(partB (stT zs) 16).toArray⟩ : ByteArray) = S := ⟨_, rfl⟩
        rw [hS] at HC HWL HSZ
        clear hS hpl hl
        go_wp2_with fail
        refine (implWords_any S _ (by have := HSZ.out; omega)).mono ?_
        rw [HWL.out, ← HW.out]
        rintro e w4 ⟨v4, rfl, ho4, hb4⟩
        have HO4 := Lib.hid (own_mono1 ho4 HG.out.size)
        have HB4 : Hid (Below w1.heap.size w1 w4) := Lib.hid (HG.out.trans (hb4.mono HG.out.size))
        clear ho4 hb4 HC
        go_wp2
        go_ret
        exact ⟨_, rfl, HO4.out, HB4.out⟩
  · have HB := Lib.hid (stB_no hok)
    have HW : Hid (stWords zs = []) := Lib.hid (stWords_no (by rw [HL.out]; exact hok))
    clear hok
    go_enter Try.func16, Try.ntmps16
    go_wp2_with fail
    refine (implStOk_any a n c zs n _ HS.out hn).mono ?_
    rw [HB.out]
    rintro e w1 ⟨rfl, rfl⟩
    go_wp2
    go_ret
    rw [HW.out]
    exact ⟨_, rfl, World.ownsRow_nil _ _ _ 1, Below.refl _ _⟩
end Go.Proofs.Ytppdjhchangikaa
