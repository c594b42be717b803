/- Merged texts: Ciph, DerKeySpec, SealBase, SealM, CiphSpec, Draw, DrawLem, DrawText, DrawMore, Draw9, Others. -/
import Derived.Test.YtgpjklnlchbbbaaGreatDoorP9J
import Derived.Handy
import Derived.Test.YtgpjklnlchbbbaaGreatDoorRows
import Derived.WalkKit
import Derived.WalkSpells
import Derived.WalkLawsBesides
import Derived.Lib.Hide
import Derived.Deep.QuietTactic
import Derived.BigQuiet
import Derived.OwnWalk
import Derived.OneCell
import Derived.Deep.RegionHeld3
import Derived.Deep.AppendLies
namespace Go.Proofs.YtgpjklnlchbbbaaGreatDoor
open Go.RowKit Go.Proofs.YtgpjklnlchbbbaaGreatDoor.Hexa Go.Proofs.YtgpjklnlchbbbaaGreatDoor.Byt Go.Proofs.YtgpjklnlchbbbaaGreatDoor.Aes Go.Proofs.YtgpjklnlchbbbaaGreatDoor.Parts

/-- A page's tag. -/
def tagP (key nonce page : ByteArray) : ByteArray := markB (markB key markWord 16) (nonce ++ page) 4
def FitsP (key nonce page : ByteArray) : Prop := key.size = 8 ∧ nonce.size = 12 ∧ page.size = 32

set_option maxRecDepth 100000 in
set_option maxHeartbeats 400000 in
theorem pageFits_yes (key nonce page : ByteArray) (w : World) (h : FitsP key nonce page) :
    Calls Tryz.prog 15 #[.string key, .string nonce, .string page] w fun e w' => e = .returned (.bool true) ∧ w' = w := by
  obtain ⟨h1, h2, h3⟩ := h
  go_enter Tryz.func15, Tryz.ntmps15
  go_wp2
  go_ret
  exact ⟨rfl, rfl⟩

set_option maxRecDepth 100000 in
set_option maxHeartbeats 400000 in
theorem pageFits_no (key nonce page : ByteArray) (w : World) (h : ¬ FitsP key nonce page) :
    Calls Tryz.prog 15 #[.string key, .string nonce, .string page] w fun e w' => e = .returned (.bool false) ∧ w' = w := by
  by_cases h1 : (key.size : Int) = 8
  · by_cases h2 : (nonce.size : Int) = 12
    · have h3 : ¬ ((page.size : Int) = 32) := fun e => h ⟨by omega, by omega, by omega⟩
      have d3 : ((page.size : Int) == 32) = false := beq_eq_false_iff_ne.2 h3
      clear h
      go_enter Tryz.func15, Tryz.ntmps15
      go_wp2
      go_ret
      exact ⟨rfl, rfl⟩
    · have d2 : ((nonce.size : Int) == 12) = false := beq_eq_false_iff_ne.2 h2
      clear h
      go_enter Tryz.func15, Tryz.ntmps15
      go_wp2
      go_ret
      exact ⟨rfl, rfl⟩
  · have d1 : ((key.size : Int) == 8) = false := beq_eq_false_iff_ne.2 h1
    clear h
    go_enter Tryz.func15, Tryz.ntmps15
    go_wp2
    go_ret
    exact ⟨rfl, rfl⟩

set_option maxRecDepth 100000 in
set_option maxHeartbeats 400000 in
theorem pageMark_any (key nonce page : ByteArray) (w : World) (hT : Tabs w) (hk : key.size ≤ 2000000) (hn : nonce.size ≤ 1000000) (hp : page.size ≤ 1000000) :
    Calls Tryz.prog 17 #[.string key, .string nonce, .string page] w fun e w' => e = .returned (.string (tagP key nonce page)) ∧ Below w.heap.size w w' := by
  have k1 := Lib.hid fun w hT => implMarkKey_any key w hT hk
  have hm := markB_le key markWord 16
  have hnp : nonce.size + page.size ≤ 2000000 := by omega
  have k2 := Lib.hid fun k w hT (hk : k.size ≤ 2000000) => implMark_any k (nonce ++ page) 4 w hT hk (by rw [ByteArray.size_append]; exact hnp)
  have HT := Lib.hid hT
  have HE : Hid (tagP key nonce page = markB (markB key markWord 16) (nonce ++ page) 4) := Lib.hid rfl
  rw [HE.out]
  clear HE hT
  generalize markB key markWord 16 = K at k1 hm ⊢
  go_enter Tryz.func17, Tryz.ntmps17
  go_wp2_with (first
    | (go_at_call 28; refine (k1.out _ HT.out).mono ?_; rintro e w1 ⟨rfl, hb1⟩)
    | (go_at_call 27; refine (k2.out K _ (HT.out.below hb1) (by omega)).mono ?_; rintro e w2 ⟨rfl, hb2⟩))
  go_ret
  exact ⟨rfl, hb1.trans (hb2.mono hb1.size)⟩

set_option maxRecDepth 100000 in
set_option maxHeartbeats 400000 in
theorem cipherOf_any (key : ByteArray) (w : World) (hT : Tabs w) (hk : key.size ≤ 2000000) :
    Calls Tryz.prog 16 #[.string key] w fun e w' => e = .returned (.iface 59 (.agg #[.string (markB key pageWord 16)])) ∧ Below w.heap.size w w' := by
  have k1 := Lib.hid fun w hT => implPageKey_any key w hT hk
  generalize markB key pageWord 16 = K at k1 ⊢
  have HT := Lib.hid hT
  clear hT
  go_enter Tryz.func16, Tryz.ntmps16
  go_wp2_with (first
    | (go_at_call 26; refine (k1.out _ HT.out).mono ?_; rintro e w1 ⟨rfl, hb1⟩))
  go_ret
  exact ⟨rfl, hb1⟩

theorem markB_size (k t : ByteArray) (n : Int) (h0 : 1 ≤ n) (h1 : n ≤ 32) : (markB k t n).size = n.toNat := by
  unfold markB
  rw [if_pos ⟨h0, h1⟩, ByteArray.size_extract, hmacB_size]
  omega
set_option maxRecDepth 100000 in
set_option maxHeartbeats 400000 in
theorem implSeal_no (key nonce text : ByteArray) (w : World) (h : ¬ FitsP key nonce text) :
    Calls Tryz.prog 6 #[.string key, .string nonce, .string text] w fun e w' => e = .returned (.tuple #[.string ⟨#[]⟩, .string ⟨#[]⟩]) ∧ w' = w := by
  have k0 := Lib.hid fun w => pageFits_no key nonce text w h
  clear h
  go_enter Tryz.func6, Tryz.ntmps6
  go_wp2_with fail
  refine (k0.out _).mono ?_
  rintro e w0 ⟨rfl, rfl⟩
  go_wp2
  go_ret2
  exact ⟨rfl, rfl⟩

/-- What OpenPage tells: does the page fit, and is its tag right. -/
def okP (key nonce page mark : ByteArray) : Prop := FitsP key nonce page ∧ tagP key nonce page = mark

set_option maxRecDepth 100000 in
set_option maxHeartbeats 400000 in
theorem implOpen_no (key nonce page mark : ByteArray) (w : World) (hT : Tabs w) (h : ¬ okP key nonce page mark) :
    Calls Tryz.prog 9 #[.string key, .string nonce, .string page, .string mark] w fun e w' => e = .returned (.tuple #[.string ⟨#[]⟩, .bool false]) ∧ Below w.heap.size w w' := by
  by_cases hf : FitsP key nonce page
  · have ht : ¬ tagP key nonce page = mark := fun e => h ⟨hf, e⟩
    have k0 := Lib.hid fun w => pageFits_yes key nonce page w hf
    obtain ⟨h1, h2, h3⟩ := hf
    have k3 := Lib.hid fun w hT => pageMark_any key nonce page w hT (by omega) (by omega) (by omega)
    have ht9 : (tagP key nonce page).size ≤ 32 := markB_le _ _ _
    have k4 := Lib.hid fun w => implSame_any (tagP key nonce page) mark w (by omega)
    have HT := Lib.hid hT
    have HD : Hid (decide (tagP key nonce page = mark) = false) := Lib.hid (decide_eq_false ht)
    clear hT h ht
    generalize tagP key nonce page = t at k3 k4 HD
    go_enter Tryz.func9, Tryz.ntmps9
    go_wp2_with fail
    refine (k0.out _).mono ?_
    rintro e w0 ⟨rfl, rfl⟩
    go_wp2_with fail
    refine (k3.out _ HT.out).mono ?_
    rintro e w1 ⟨rfl, hb1⟩
    go_wp2_with fail
    refine (k4.out _).mono ?_
    rintro e w2 ⟨rfl, m, rfl⟩
    rw [HD.out]
    go_wp2
    go_ret2
    exact ⟨rfl, hb1.trans ((below_drewN w1 m).mono (Nat.le_refl _))⟩
  · have k0 := Lib.hid fun w => pageFits_no key nonce page w hf
    clear h hf
    go_enter Tryz.func9, Tryz.ntmps9
    go_wp2_with fail
    refine (k0.out _).mono ?_
    rintro e w0 ⟨rfl, rfl⟩
    go_wp2
    go_ret2
    exact ⟨rfl, Below.refl _ _⟩
section
variable [Inhabited Gen.Mix4]
/-- A page, encrypted or decrypted. -/
def pageP (key nonce text : ByteArray) : ByteArray := xorT text (Gen.streamB (markB key pageWord 16) nonce text.size)

theorem stream_thirtytwo (key nonce : ByteArray) (hn : nonce.size = 12) : (Gen.streamB (markB key pageWord 16) nonce ((32 : Nat) : Int)).size = 32 := by
  have hk : (markB key pageWord 16).size = 16 := markB_size _ _ _ (by omega) (by omega)
  have hf : StreamFits (markB key pageWord 16) nonce ((32 : Nat) : Int) := ⟨hk, hn, by omega, by omega⟩
  rw [Gen.streamB_yes hf]
  exact Gen.streamT_size _ _ hk hn 32 (by omega)
theorem pageP_size (key nonce text : ByteArray) (h : FitsP key nonce text) : (pageP key nonce text).size = 32 := by
  obtain ⟨_, h2, h3⟩ := h
  unfold pageP
  rw [h3, xorP_size _ _ (by rw [stream_thirtytwo key nonce h2, h3]), h3]
theorem pageP_back (key nonce text : ByteArray) (h : FitsP key nonce text) : pageP key nonce (pageP key nonce text) = text := by
  have hs := pageP_size key nonce text h
  obtain ⟨_, h2, h3⟩ := h
  have e : pageP key nonce (pageP key nonce text) = xorT (pageP key nonce text) (Gen.streamB (markB key pageWord 16) nonce ((32 : Nat) : Int)) := by
    show xorT (pageP key nonce text) (Gen.streamB (markB key pageWord 16) nonce ((pageP key nonce text).size : Int)) = _
    rw [hs]
  rw [e]
  unfold pageP
  rw [h3]
  exact xorT_back _ _ (by rw [stream_thirtytwo key nonce h2, h3])

set_option maxRecDepth 100000 in
set_option maxHeartbeats 400000 in
theorem encrypted_any (K nonce text : ByteArray) (w : World) (ht : text.size ≤ 8000000) (hM : Gen.MixTab w) :
    Calls Tryz.prog 103 #[.agg #[.string K], .string nonce, .string text] w fun e w' => e = .returned (.string (xorT text (Gen.streamB K nonce text.size))) ∧ Below w.heap.size w w' := by
  have k1 := Lib.hid fun w hM => Gen.implStreamed_any K nonce text w ht hM
  have HM := Lib.hid hM
  generalize xorT text (Gen.streamB K nonce text.size) = r at k1 ⊢
  have hb0 : Below w.heap.size w (w.alloc (.cells #[.string K] 59)) := (Below.refl _ _).alloc (Nat.le_refl _) _
  clear hM
  go_enter Tryz.func103, Tryz.ntmps103
  go_wp2_with (first
    | (go_at_call 104; refine (k1.out _ (HM.out.below hb0)).mono ?_; rintro e w1 ⟨rfl, hb1⟩))
  go_ret
  exact ⟨rfl, hb0.trans (hb1.mono hb0.size)⟩

set_option maxRecDepth 100000 in
set_option maxHeartbeats 400000 in
theorem decrypted_any (K nonce text : ByteArray) (w : World) (ht : text.size ≤ 8000000) (hM : Gen.MixTab w) :
    Calls Tryz.prog 102 #[.agg #[.string K], .string nonce, .string text] w fun e w' => e = .returned (.string (xorT text (Gen.streamB K nonce text.size))) ∧ Below w.heap.size w w' := by
  have k1 := Lib.hid fun w hM => Gen.implStreamed_any K nonce text w ht hM
  have HM := Lib.hid hM
  generalize xorT text (Gen.streamB K nonce text.size) = r at k1 ⊢
  have hb0 : Below w.heap.size w (w.alloc (.cells #[.string K] 59)) := (Below.refl _ _).alloc (Nat.le_refl _) _
  clear hM
  go_enter Tryz.func102, Tryz.ntmps102
  go_wp2_with (first
    | (go_at_call 104; refine (k1.out _ (HM.out.below hb0)).mono ?_; rintro e w1 ⟨rfl, hb1⟩))
  go_ret
  exact ⟨rfl, hb0.trans (hb1.mono hb0.size)⟩

set_option maxRecDepth 100000 in
set_option maxHeartbeats 400000 in
theorem implSeal_yes (key nonce text : ByteArray) (w : World) (hT : Tabs w) (hM : Gen.MixTab w) (h : FitsP key nonce text) :
    Calls Tryz.prog 6 #[.string key, .string nonce, .string text] w fun e w' => e = .returned (.tuple #[.string (pageP key nonce text), .string (tagP key nonce (pageP key nonce text))]) ∧ Below w.heap.size w w' := by
  have k0 := Lib.hid fun w => pageFits_yes key nonce text w h
  obtain ⟨h1, h2, h3⟩ := h
  have k1 := Lib.hid fun w hT => cipherOf_any key w hT (by omega)
  have k2 := Lib.hid fun K w hM => encrypted_any K nonce text w (by omega) hM
  have k3 := Lib.hid fun page w hT (hp : page.size ≤ 1000000) => pageMark_any key nonce page w hT (by omega) (by omega) hp
  have HE : Hid (pageP key nonce text = xorT text (Gen.streamB (markB key pageWord 16) nonce text.size)) := Lib.hid rfl
  have HS : Hid ((pageP key nonce text).size ≤ 1000000) := Lib.hid (by rw [pageP_size key nonce text ⟨h1, h2, h3⟩]; omega)
  have HT := Lib.hid hT
  have HM := Lib.hid hM
  generalize pageP key nonce text = P at HE HS ⊢
  generalize markB key pageWord 16 = K at k1 HE ⊢
  clear hT hM
  go_enter Tryz.func6, Tryz.ntmps6
  go_wp2_with fail
  refine (k0.out _).mono ?_
  rintro e w0 ⟨rfl, rfl⟩
  go_wp2_with fail
  refine (k1.out _ HT.out).mono ?_
  rintro e w1 ⟨rfl, hb1⟩
  go_wp2_with fail
  refine (k2.out K _ (HM.out.below hb1)).mono ?_
  rintro e w2 ⟨rfl, hb2⟩
  rw [← HE.out]
  have B2 : Below w0.heap.size w0 w2 := hb1.trans (hb2.mono hb1.size)
  go_wp2_with fail
  refine (k3.out P _ (HT.out.below B2) HS.out).mono ?_
  rintro e w3 ⟨rfl, hb3⟩
  go_wp2
  go_ret2
  exact ⟨rfl, B2.trans (hb3.mono B2.size)⟩

set_option maxRecDepth 100000 in
set_option maxHeartbeats 400000 in
theorem implOpen_yes (key nonce page mark : ByteArray) (w : World) (hT : Tabs w) (hM : Gen.MixTab w) (h : okP key nonce page mark) :
    Calls Tryz.prog 9 #[.string key, .string nonce, .string page, .string mark] w fun e w' => e = .returned (.tuple #[.string (pageP key nonce page), .bool true]) ∧ Below w.heap.size w w' := by
  obtain ⟨hf, ht⟩ := h
  have k0 := Lib.hid fun w => pageFits_yes key nonce page w hf
  obtain ⟨h1, h2, h3⟩ := hf
  have k1 := Lib.hid fun w hT => cipherOf_any key w hT (by omega)
  have k2 := Lib.hid fun K w hM => decrypted_any K nonce page w (by omega) hM
  have k3 := fun w hT => pageMark_any key nonce page w hT (by omega) (by omega) (by omega)
  have ht9 : (tagP key nonce page).size ≤ 32 := markB_le _ _ _
  rw [ht] at k3 ht9
  have K3 := Lib.hid k3
  have k4 : Hid (∀ w : World, Calls Tryz.prog 19 #[.string mark, .string mark] w fun e w' => e = .returned (.bool true) ∧ ∃ m, w' = w.drewN m) := Lib.hid fun w => (implSame_any mark mark w (by omega)).mono fun e w' ⟨he, hw⟩ => ⟨by rw [he, decide_eq_true (rfl : mark = mark)], hw⟩
  have HE : Hid (pageP key nonce page = xorT page (Gen.streamB (markB key pageWord 16) nonce page.size)) := Lib.hid rfl
  have HT := Lib.hid hT
  have HM := Lib.hid hM
  generalize pageP key nonce page = P at HE ⊢
  generalize markB key pageWord 16 = K at k1 HE ⊢
  clear hT hM k3 ht
  go_enter Tryz.func9, Tryz.ntmps9
  go_wp2_with fail
  refine (k0.out _).mono ?_
  rintro e w0 ⟨rfl, rfl⟩
  go_wp2_with fail
  refine (K3.out _ HT.out).mono ?_
  rintro e w1 ⟨rfl, hb1⟩
  go_wp2_with fail
  refine (k4.out _).mono ?_
  rintro e w2 ⟨rfl, m, rfl⟩
  have B2 : Below w0.heap.size w0 (w1.drewN m) := hb1.trans ((below_drewN w1 m).mono (Nat.le_refl _))
  clear hb1
  go_wp2_with fail
  refine (k1.out _ (HT.out.below B2)).mono ?_
  rintro e w3 ⟨rfl, hb3⟩
  have B3 : Below w0.heap.size w0 w3 := B2.trans (hb3.mono B2.size)
  clear hb3
  go_wp2_with fail
  refine (k2.out K _ (HM.out.below B3)).mono ?_
  rintro e w4 ⟨rfl, hb4⟩
  rw [← HE.out]
  go_wp2
  go_ret2
  exact ⟨rfl, B3.trans (hb4.mono B3.size)⟩

end
end Go.Proofs.YtgpjklnlchbbbaaGreatDoor
namespace Go.Proofs.YtgpjklnlchbbbaaGreatDoor
open Go.RowKit Go.Proofs.YtgpjklnlchbbbaaGreatDoor.Sha Go.Proofs.YtgpjklnlchbbbaaGreatDoor.Hexa Go.Proofs.YtgpjklnlchbbbaaGreatDoor.Byt
set_option maxRecDepth 100000 in
set_option maxHeartbeats 400000 in
theorem specPageKey_any (k : ByteArray) (w : World) (hk : k.size ≤ 2000000) :
    Calls Tryz.prog 23 #[.string k] w fun e w' => e = .returned (.string (markB k pageWord 16)) ∧ Below w.heap.size w w' := by
  have k1 := Lib.hid fun w => specMark_any k pageWord 16 w hk (by show 4 ≤ _; omega)
  generalize markB k pageWord 16 = r at k1 ⊢
  clear hk
  unfold pageWord at k1
  go_enter Tryz.func23, Tryz.ntmps23
  go_wp2_with fail
  refine (k1.out _).mono ?_
  rintro e w1 ⟨rfl, hb1⟩
  go_wp2
  go_ret
  exact ⟨rfl, hb1⟩
set_option maxRecDepth 100000 in
set_option maxHeartbeats 400000 in
theorem specMarkKey_any (k : ByteArray) (w : World) (hk : k.size ≤ 2000000) :
    Calls Tryz.prog 21 #[.string k] w fun e w' => e = .returned (.string (markB k markWord 16)) ∧ Below w.heap.size w w' := by
  have k1 := Lib.hid fun w => specMark_any k markWord 16 w hk (by show 4 ≤ _; omega)
  generalize markB k markWord 16 = r at k1 ⊢
  clear hk
  unfold markWord at k1
  go_enter Tryz.func21, Tryz.ntmps21
  go_wp2_with fail
  refine (k1.out _).mono ?_
  rintro e w1 ⟨rfl, hb1⟩
  go_wp2
  go_ret
  exact ⟨rfl, hb1⟩
end Go.Proofs.YtgpjklnlchbbbaaGreatDoor
namespace Go.Proofs.YtgpjklnlchbbbaaGreatDoor
open Go.RowKit Go.Proofs.YtgpjklnlchbbbaaGreatDoor.Parts Go.Proofs.YtgpjklnlchbbbaaGreatDoor.Hexa

/-- A sealing: its key, nonce and text. -/
structure S3 where
  k : ByteArray
  n : ByteArray
  t : ByteArray
instance : Inhabited S3 := ⟨⟨ByteArray.empty, ByteArray.empty, ByteArray.empty⟩⟩
def S3.val (s : S3) : Value := .agg #[.string s.k, .string s.n, .string s.t]

/-- A slice of sealings that came in. -/
structure SrcS (w : World) (a : Option Addr) (n : Nat) (L : List S3) : Prop where
  len : L.length = n
  cell : ∀ j, j < n → ∃ g off, a = some ⟨g, off, none⟩ ∧ g < w.heap.size ∧ w.cell? ⟨g, off + j * 3, none⟩ = some (.string (L.getD j default).k) ∧
    w.cell? ⟨g, off + j * 3 + 1, none⟩ = some (.string (L.getD j default).n) ∧ w.cell? ⟨g, off + j * 3 + 2, none⟩ = some (.string (L.getD j default).t)
theorem SrcS.later {w w' : World} {a : Option Addr} {n : Nat} {L : List S3} (h : SrcS w a n L) (hb : Below w.heap.size w w') : SrcS w' a n L :=
  ⟨h.len, fun j hj => by
    obtain ⟨g, off, e, hg, c1, c2, c3⟩ := h.cell j hj
    exact ⟨g, off, e, Nat.lt_of_lt_of_le hg hb.size, by rw [hb.cell hg]; exact c1, by rw [hb.cell hg]; exact c2, by rw [hb.cell hg]; exact c3⟩⟩


/-- The cells of sealings. -/
def cells3 : List S3 → List Value
  | [] => []
  | s :: r => .string s.k :: .string s.n :: .string s.t :: cells3 r
theorem cells3_length : ∀ L : List S3, (cells3 L).length = L.length * 3
  | [] => rfl
  | s :: r => by simp [cells3, cells3_length r]; omega
theorem cells3_at : ∀ (L : List S3) (j : Nat), j < L.length → (cells3 L)[j * 3]? = some (.string (L.getD j default).k) ∧ (cells3 L)[j * 3 + 1]? = some (.string (L.getD j default).n) ∧ (cells3 L)[j * 3 + 2]? = some (.string (L.getD j default).t)
  | s :: r, 0, _ => by simp [cells3]
  | s :: r, j + 1, h => by
    have := cells3_at r j (by simpa using h)
    rw [show (j + 1) * 3 = j * 3 + 1 + 1 + 1 by omega]
    simpa [cells3] using this
/-- The first 3 k cells are right; three more are written. -/
theorem cells3_step {L : List S3} {xs : List Value} {k : Nat} (hk : k < L.length) (hl : xs.length = L.length * 3) (h : ∀ j, j < k * 3 → xs[j]? = (cells3 L)[j]?) :
    ∀ j, j < (k + 1) * 3 → (((xs.set (k * 3) (.string (L.getD k default).k)).set (k * 3 + 1) (.string (L.getD k default).n)).set (k * 3 + 2) (.string (L.getD k default).t))[j]? = (cells3 L)[j]? := by
  intro j hj
  obtain ⟨e0, e1, e2⟩ := cells3_at L k hk
  by_cases h2 : j = k * 3 + 2
  · subst h2; rw [List.getElem?_set_self (by simp; omega), e2]
  · rw [List.getElem?_set_ne (by omega)]
    by_cases h1 : j = k * 3 + 1
    · subst h1; rw [List.getElem?_set_self (by simp; omega), e1]
    · rw [List.getElem?_set_ne (by omega)]
      by_cases h0 : j = k * 3
      · subst h0; rw [List.getElem?_set_self (by omega), e0]
      · rw [List.getElem?_set_ne (by omega)]; exact h j (by omega)

theorem infoSeal : (Tryz.prog.info? 32).map (fun i => (i.zero, i.size, i.bytes)) = some (some (.agg #[.string ByteArray.empty, .string ByteArray.empty, .string ByteArray.empty]), 3, 48) := by kernel_rfl

theorem own_lt3 {w : World} {B e : Nat} {g n cap : Nat} {xs : List Value} (h : w.ownsRow B e 3 (.slice (some ⟨g, 0, none⟩) n cap) n xs) : g < w.heap.size := (h.lt g rfl).2
/-- A slice that the call owns, as one that came in. -/
theorem srcS_of_own {w : World} {B e : Nat} {g n cap : Nat} {L : List S3} (h : w.ownsRow B e 3 (.slice (some ⟨g, 0, none⟩) n cap) n (cells3 L)) : SrcS w (some ⟨g, 0, none⟩) n L := by
  have hl : L.length = n := by have h1 := h.1; rw [cells3_length] at h1; omega
  refine ⟨hl, fun j hj => ?_⟩
  obtain ⟨e0, e1, e2⟩ := cells3_at L j (by omega)
  refine ⟨g, 0, rfl, own_lt3 h, ?_, ?_, ?_⟩
  · rw [Nat.zero_add, h.cellAt _ (by omega), e0]
  · rw [Nat.zero_add, h.cellAt _ (by omega), e1]
  · rw [Nat.zero_add, h.cellAt _ (by omega), e2]

end Go.Proofs.YtgpjklnlchbbbaaGreatDoor
namespace Go.Proofs.YtgpjklnlchbbbaaGreatDoor
open Go.RowKit Go.Proofs.YtgpjklnlchbbbaaGreatDoor.Parts Go.Proofs.YtgpjklnlchbbbaaGreatDoor.Hexa

noncomputable instance memText (x : ByteArray) (l : List ByteArray) : Decidable (x ∈ l) := Classical.propDecidable _
/-- One more nonce. -/
noncomputable def addN (acc : List ByteArray) (x : ByteArray) : List ByteArray := if x ∈ acc then acc else acc ++ [x]
noncomputable def noncesB (L : List S3) : List ByteArray := L.foldl (fun acc s => addN acc s.n) []
/-- .. of the first k. -/
noncomputable def noncesTo (L : List S3) (k : Nat) : List ByteArray := noncesB (L.take k)

theorem noncesTo_zero (L : List S3) : noncesTo L 0 = [] := rfl
theorem noncesTo_all (L : List S3) : noncesTo L L.length = noncesB L := by unfold noncesTo; rw [List.take_length]
theorem noncesTo_step {L : List S3} {k : Nat} (hk : k < L.length) : noncesTo L (k + 1) = addN (noncesTo L k) (L.getD k default).n := by
  unfold noncesTo noncesB
  rw [List.take_add_one, List.getElem?_eq_getElem hk, List.foldl_append]
  simp [List.getD, hk]
theorem addN_length (acc : List ByteArray) (x : ByteArray) : (addN acc x).length ≤ acc.length + 1 := by unfold addN; split <;> simp
theorem noncesTo_length {L : List S3} : ∀ {k : Nat}, k ≤ L.length → (noncesTo L k).length ≤ k
  | 0, _ => by simp [noncesTo_zero]
  | k + 1, h => by
    rw [noncesTo_step (by omega)]
    have := addN_length (noncesTo L k) (L.getD k default).n
    have := noncesTo_length (L := L) (k := k) (by omega)
    omega
theorem addN_yes {acc : List ByteArray} {x : ByteArray} (h : x ∈ acc) : addN acc x = acc := if_pos h
theorem addN_no {acc : List ByteArray} {x : ByteArray} (h : x ∉ acc) : addN acc x = acc ++ [x] := if_neg h

/-- Two of the first k under one key and nonce differ. -/
def Clash (L : List S3) (k : Nat) : Prop := ∃ i j, i < k ∧ j < k ∧ (L.getD i default).k = (L.getD j default).k ∧ (L.getD i default).n = (L.getD j default).n ∧ (L.getD i default).t ≠ (L.getD j default).t
theorem clash_zero (L : List S3) : ¬ Clash L 0 := fun ⟨_, _, h, _⟩ => by omega
theorem clash_step {L : List S3} {k : Nat} (h : ¬ Clash L k) (hn : ∀ j, j < k → (L.getD k default).k = (L.getD j default).k → (L.getD k default).n = (L.getD j default).n → (L.getD k default).t = (L.getD j default).t) : ¬ Clash L (k + 1) := by
  rintro ⟨i, j, hi, hj, e1, e2, hne⟩
  by_cases a : i = k
  · subst a
    by_cases b : j = i
    · subst b; exact hne rfl
    · exact hne (hn j (by omega) e1 e2)
  · by_cases b : j = k
    · subst b; exact hne (hn i (by omega) e1.symm e2.symm).symm
    · exact h ⟨i, j, by omega, by omega, e1, e2, hne⟩
theorem clash_mono {L : List S3} {k m : Nat} (hk : k ≤ m) (h : Clash L k) : Clash L m := by
  obtain ⟨i, j, hi, hj, h⟩ := h
  exact ⟨i, j, by omega, by omega, h⟩
noncomputable def clashB (L : List S3) (n : Nat) : Bool := @decide (Clash L n) (Classical.propDecidable _)
theorem clashB_yes {L : List S3} {n : Nat} (h : Clash L n) : clashB L n = true := by unfold clashB; exact @decide_eq_true _ (Classical.propDecidable _) h
theorem clashB_no {L : List S3} {n : Nat} (h : ¬ Clash L n) : clashB L n = false := by unfold clashB; exact @decide_eq_false _ (Classical.propDecidable _) h

theorem data_inj {a b : ByteArray} (h : a.data.toList = b.data.toList) : a = b := by cases a; cases b; simp at h; subst h; rfl
theorem toList_data (a : ByteArray) : a.toList = a.data.toList := by
  rw [Go.ByteArray.toList_eq]
theorem text_ne {a b : ByteArray} (h : a ≠ b) : (a.toList == b.toList) = false := by
  have h2 : ¬ a.toList = b.toList := fun e => h (data_inj (by simpa [toList_data] using e))
  simpa using h2
theorem text_ne' {a b : ByteArray} (h : a ≠ b) : ¬ a.toList = b.toList := by
  have := text_ne h
  simpa using this
end Go.Proofs.YtgpjklnlchbbbaaGreatDoor
namespace Go.Proofs.YtgpjklnlchbbbaaGreatDoor
open Go.RowKit Go.Proofs.YtgpjklnlchbbbaaGreatDoor.Hexa Go.Proofs.YtgpjklnlchbbbaaGreatDoor.Byt Go.Proofs.YtgpjklnlchbbbaaGreatDoor.Aes Go.Proofs.YtgpjklnlchbbbaaGreatDoor.Parts

set_option maxRecDepth 100000 in
set_option maxHeartbeats 400000 in
theorem specOpen_misfit (key nonce page mark : ByteArray) (w : World) (h : ¬ FitsP key nonce page) :
    Calls Tryz.prog 11 #[.string key, .string nonce, .string page, .string mark] w fun e w' => e = .returned (.tuple #[.string ⟨#[]⟩, .bool false]) ∧ Below w.heap.size w w' := by
  by_cases h1 : (key.size : Int) = 8
  · by_cases h2 : (nonce.size : Int) = 12
    · have h3 : ¬ ((page.size : Int) = 32) := fun e => h ⟨by omega, by omega, by omega⟩
      have d3 : ((page.size : Int) == 32) = false := beq_eq_false_iff_ne.2 h3
      clear h
      go_enter Tryz.func11, Tryz.ntmps11
      go_wp2
      go_ret2
      exact ⟨rfl, Below.refl _ _⟩
    · have d2 : ((nonce.size : Int) == 12) = false := beq_eq_false_iff_ne.2 h2
      clear h
      go_enter Tryz.func11, Tryz.ntmps11
      go_wp2
      go_ret2
      exact ⟨rfl, Below.refl _ _⟩
  · have d1 : ((key.size : Int) == 8) = false := beq_eq_false_iff_ne.2 h1
    clear h
    go_enter Tryz.func11, Tryz.ntmps11
    go_wp2
    go_ret2
    exact ⟨rfl, Below.refl _ _⟩

set_option maxRecDepth 100000 in
set_option maxHeartbeats 400000 in
theorem specOpen_wrong (key nonce page mark : ByteArray) (w : World) (h : FitsP key nonce page) (hm : ¬ tagP key nonce page = mark) :
    Calls Tryz.prog 11 #[.string key, .string nonce, .string page, .string mark] w fun e w' => e = .returned (.tuple #[.string ⟨#[]⟩, .bool false]) ∧ Below w.heap.size w w' := by
  obtain ⟨h1, h2, h3⟩ := h
  have k1 := Lib.hid fun w => specMarkKey_any key w (by omega)
  have hz := markB_le key markWord 16
  have hnp : nonce.size + page.size ≤ 2000000 := by omega
  have k2 := Lib.hid fun k w (hk : k.size ≤ 2000000) => specMark_any k (nonce ++ page) 4 w hk (by rw [ByteArray.size_append]; exact hnp)
  have q1 := text_ne (fun e => hm (e.symm) : ¬ mark = tagP key nonce page)
  have q2 := text_ne' (fun e => hm (e.symm) : ¬ mark = tagP key nonce page)
  have HE : Hid (tagP key nonce page = markB (markB key markWord 16) (nonce ++ page) 4) := Lib.hid rfl
  generalize tagP key nonce page = t at q1 q2 HE
  generalize markB key markWord 16 = K at k1 hz HE
  clear hm
  go_enter Tryz.func11, Tryz.ntmps11
  go_wp2_with fail
  refine (k1.out _).mono ?_
  rintro e w1 ⟨rfl, hb1⟩
  go_wp2_with fail
  refine (k2.out K _ (by omega)).mono ?_
  rintro e w2 ⟨rfl, hb2⟩
  rw [← HE.out]
  go_wp2
  go_ret2
  exact ⟨rfl, hb1.trans (hb2.mono hb1.size)⟩

set_option maxRecDepth 100000 in
set_option maxHeartbeats 400000 in
theorem specOpen_yes (key nonce page mark : ByteArray) (w : World) (h : okP key nonce page mark) :
    Calls Tryz.prog 11 #[.string key, .string nonce, .string page, .string mark] w fun e w' => (∃ t, e = .returned (.tuple #[.string t, .bool true])) ∧ Below w.heap.size w w' := by
  obtain ⟨⟨h1, h2, h3⟩, hm⟩ := h
  have k1 := Lib.hid fun w => specMarkKey_any key w (by omega)
  have hz := markB_le key markWord 16
  have hnp : nonce.size + page.size ≤ 2000000 := by omega
  have k2 := Lib.hid fun k w (hk : k.size ≤ 2000000) => specMark_any k (nonce ++ page) 4 w hk (by rw [ByteArray.size_append]; exact hnp)
  have k3 := Lib.hid fun w => specPageKey_any key w (by omega)
  have k4 := Lib.hid fun k w => specStreamed_any k nonce page w (by omega)
  have HE : Hid (markB (markB key markWord 16) (nonce ++ page) 4 = mark) := Lib.hid hm
  generalize markB key markWord 16 = K at k1 hz HE
  generalize markB key pageWord 16 = K2 at k3
  clear hm
  go_enter Tryz.func11, Tryz.ntmps11
  go_wp2_with fail
  refine (k1.out _).mono ?_
  rintro e w1 ⟨rfl, hb1⟩
  go_wp2_with fail
  refine (k2.out K _ (by omega)).mono ?_
  rintro e w2 ⟨rfl, hb2⟩
  rw [HE.out]
  have B2 : Below w.heap.size w w2 := hb1.trans (hb2.mono hb1.size)
  clear hb1 hb2
  go_wp2_with fail
  refine (k3.out _).mono ?_
  rintro e w3 ⟨rfl, hb3⟩
  have B3 : Below w.heap.size w w3 := B2.trans (hb3.mono B2.size)
  clear hb3
  go_wp2_with fail
  refine (k4.out K2 _).mono ?_
  rintro e w4 ⟨rfl, hb4⟩
  go_wp2
  go_ret2
  exact ⟨⟨_, rfl⟩, B3.trans (hb4.mono B3.size)⟩
end Go.Proofs.YtgpjklnlchbbbaaGreatDoor
namespace Go.Proofs.YtgpjklnlchbbbaaGreatDoor
open Go.RowKit
namespace Draw

theorem and255 (y : Int) : 0 ≤ bits .and .i64 y 255 ∧ bits .and .i64 y 255 ≤ 255 := by
  have h : (BitVec.ofInt 64 y &&& BitVec.ofInt 64 255).toNat ≤ 255 := by
    rw [BitVec.toNat_and]; exact Nat.le_trans Nat.and_le_right (by decide)
  have e : bits .and .i64 y 255 = IntKind.i64.wrap ((BitVec.ofInt 64 y &&& BitVec.ofInt 64 255).toNat : Int) := rfl
  rw [e, IntWalk.i64_in _ (by omega)]
  omega

/-- The text that is drawn from: bytes, in blocks below B. -/
def Src (w : World) (B : Nat) (ad : Option Addr) (len : Nat) : Prop := ∀ i, i < len → ∃ b off z, ad = some ⟨b, off, none⟩ ∧ b < B ∧ (0 : Int) ≤ z ∧ z ≤ 255 ∧ w.cell? ⟨b, off + i, none⟩ = some (.int .u8 z)

/-- The cursor in block c. -/
def Cur (w : World) (c : Nat) (ad : Option Addr) (len cap : Nat) : Prop :=
  ∃ (i : Nat) (h : Int), i ≤ len ∧ w.heap[c]? = some (.cells #[.slice ad len cap, .int .i64 i, .int .i64 h] 55 (0, 0))

def BytePost (w : World) (c : Nat) (ad : Option Addr) (len cap : Nat) (e : Ending) (w' : World) : Prop :=
  ∃ x : Int, 0 ≤ x ∧ x ≤ 255 ∧ e = .returned (.int .i64 x) ∧ Cur w' c ad len cap ∧ w.grownBy w' (some c)

theorem grownBy_refl (w : World) (r : Option Nat) : w.grownBy w r := ⟨rfl, rfl, rfl, Nat.le_refl _, fun _ _ _ => rfl⟩
theorem grownBy_trans {a b c : World} {r : Option Nat} (h : a.grownBy b r) (k : b.grownBy c r) : a.grownBy c r :=
  ⟨k.os.trans h.os, k.tape.trans h.tape, k.output.trans h.output, Nat.le_trans h.size k.size, fun i hi hr => (k.block i (Nat.lt_of_lt_of_le hi h.size) hr).trans (h.block i hi hr)⟩

theorem grownBy_set {a w : World} {c : Nat} (h : a.grownBy w (some c)) (j : Nat) (v : Value) : a.grownBy (w.setCell ⟨c, j, none⟩ v) (some c) :=
  grownBy_trans h ⟨rfl, rfl, rfl, by simp [World.setCell], fun k hk hr => Below.heap_setCell _ _ _ _ (fun e => hr (by rw [e]))⟩
theorem grownBy_draws {a w : World} {r : Option Nat} (h : a.grownBy w r) (n : Nat) : a.grownBy (w.drewN n) r := ⟨h.os, h.tape, h.output, h.size, h.block⟩
theorem block_set {w : World} {c j : Nat} {cs : Array Value} {t : TypeId} (h : w.heap[c]? = some (.cells cs t (0, 0))) (v : Value) : (w.setCell ⟨c, j, none⟩ v).heap[c]? = some (.cells (cs.setIfInBounds j v) t (0, 0)) :=
  heap_setCell_same w c j cs t v h

set_option maxRecDepth 100000 in
set_option maxHeartbeats 1000000 in
theorem byte_any (c : Nat) (ad : Option Addr) (len cap : Nat) (w : World) (hlen : len ≤ 1048576) (hc : Cur w c ad len cap) (hs : Src w c ad len) :
    Calls Tryz.prog 24 #[.pointer (some ⟨c, 0, none⟩)] w (BytePost w c ad len cap) := by
  obtain ⟨i, h, hi, hb⟩ := hc
  have f0 : w.cell? ⟨c, 0, none⟩ = some (.slice ad len cap) := by simp [World.cell?, hb]
  have f1 : w.cell? ⟨c, 1, none⟩ = some (.int .i64 i) := by simp [World.cell?, hb]
  have f2 : w.cell? ⟨c, 2, none⟩ = some (.int .i64 h) := by simp [World.cell?, hb]
  have z2 : w.frozen? ⟨c, 2, none⟩ = false := by simp [World.frozen?, hb]
  have z1 : w.frozen? ⟨c, 1, none⟩ = false := by simp [World.frozen?, hb]
  have HB := Lib.hid hb
  clear hb
  by_cases hlt : i < len
  · obtain ⟨b, off, z, rfl, hbc, hz0, hz1, hz⟩ := hs i hlt
    have hz' : ∀ x, (w.setCell ⟨c, 2, none⟩ x).cell? ⟨b, off + i, none⟩ = some (.int .u8 z) := fun x => by
      rw [World.cell?_of_block (w := w) (Below.heap_setCell _ _ _ _ (by show b ≠ c; omega))]; exact hz
    go_enter Tryz.func24, Tryz.ntmps24
    go_wp2
    go_quiet (fail)
    go_wp2
    go_quiet (fail)
    go_wp2
    go_quiet (fail)
    go_wp2
    go_ret
    exact ⟨_, (and255 _).1, (and255 _).2, rfl, ⟨i + 1, _, by omega, block_set (block_set HB.out _) _⟩, grownBy_set (grownBy_draws (grownBy_set (grownBy_refl w _) 2 _) _) 1 _⟩
  · go_enter Tryz.func24, Tryz.ntmps24
    go_wp2
    go_quiet (fail)
    go_wp2
    go_quiet (fail)
    go_wp2
    go_ret
    exact ⟨_, (and255 _).1, (and255 _).2, rfl, ⟨i, _, hi, block_set HB.out _⟩, grownBy_draws (grownBy_draws (grownBy_set (grownBy_refl w _) 2 _) _) _⟩

theorem cur_lt {w : World} {c : Nat} {ad : Option Addr} {len cap : Nat} (h : Cur w c ad len cap) : c < w.heap.size := by
  obtain ⟨i, h, _, hb⟩ := h
  exact (Array.getElem?_eq_some_iff.1 hb).1
theorem src_grown {w w' : World} {c : Nat} {ad : Option Addr} {len : Nat} (hs : Src w c ad len) (hg : w.grownBy w' (some c)) (hc : c < w.heap.size) : Src w' c ad len := by
  intro i hi
  obtain ⟨b, off, z, h1, h2, h3, h4, h5⟩ := hs i hi
  exact ⟨b, off, z, h1, h2, h3, h4, by rw [World.cell?_of_block (w := w) (hg.block b (by omega) (fun e => by simp at e; omega))]; exact h5⟩

def NumPost (n : Int) (w : World) (c : Nat) (ad : Option Addr) (len cap : Nat) (e : Ending) (w' : World) : Prop :=
  ∃ x : Int, 0 ≤ x ∧ x < n ∧ e = .returned (.int .i64 x) ∧ Cur w' c ad len cap ∧ w.grownBy w' (some c)

set_option maxRecDepth 100000 in
set_option maxHeartbeats 1000000 in
theorem below_small (c : Nat) (ad : Option Addr) (len cap : Nat) (n : Int) (w : World) (hlen : len ≤ 1048576) (hn : 0 < n) (hn2 : n ≤ 256) (hc : Cur w c ad len cap) (hs : Src w c ad len) :
    Calls Tryz.prog 25 #[.pointer (some ⟨c, 0, none⟩), .int .i64 n] w (NumPost n w c ad len cap) := by
  have hz : (n == 0) = false := by simp; omega
  have HC := Lib.hid hc
  have HS := Lib.hid hs
  clear hc hs
  go_enter Tryz.func25, Tryz.ntmps25
  go_wp2_with fail
  refine (byte_any c ad len cap w hlen HC.out HS.out).mono ?_
  rintro e w1 ⟨x, x0, x1, rfl, hc1, hg1⟩
  have C1 := Lib.hid hc1
  have G1 := Lib.hid hg1
  clear hc1 hg1
  go_wp2
  go_ret
  exact ⟨_, Int.emod_nonneg _ (by omega), Int.emod_lt_of_pos _ hn, rfl, C1.out, G1.out⟩

set_option maxRecDepth 100000 in
set_option maxHeartbeats 1000000 in
theorem below_big (c : Nat) (ad : Option Addr) (len cap : Nat) (n : Int) (w : World) (hlen : len ≤ 1048576) (hn : 256 < n) (hn2 : n ≤ 4611686018427387904) (hc : Cur w c ad len cap) (hs : Src w c ad len) :
    Calls Tryz.prog 25 #[.pointer (some ⟨c, 0, none⟩), .int .i64 n] w (NumPost n w c ad len cap) := by
  have hz : (n == 0) = false := by simp; omega
  have HC := Lib.hid hc
  have HS := Lib.hid hs
  clear hc hs
  go_enter Tryz.func25, Tryz.ntmps25
  go_wp2_with fail
  refine (byte_any c ad len cap w hlen HC.out HS.out).mono ?_
  rintro e w1 ⟨x, x0, x1, rfl, hc1, hg1⟩
  have S1 := Lib.hid (src_grown HS.out hg1 (cur_lt HC.out))
  have C1 := Lib.hid hc1
  have G1 := Lib.hid hg1
  clear hc1 hg1
  go_wp2_with fail
  refine (byte_any c ad len cap w1 hlen C1.out S1.out).mono ?_
  rintro e w2 ⟨y, y0, y1, rfl, hc2, hg2⟩
  have S2 := Lib.hid (src_grown S1.out hg2 (cur_lt C1.out))
  have C2 := Lib.hid hc2
  have G2 := Lib.hid (grownBy_trans G1.out hg2)
  clear hc2 hg2
  go_wp2_with fail
  refine (byte_any c ad len cap w2 hlen C2.out S2.out).mono ?_
  rintro e w3 ⟨z, z0, z1, rfl, hc3, hg3⟩
  have S3 := Lib.hid (src_grown S2.out hg3 (cur_lt C2.out))
  have C3 := Lib.hid hc3
  have G3 := Lib.hid (grownBy_trans G2.out hg3)
  clear hc3 hg3
  go_wp2_with fail
  refine (byte_any c ad len cap w3 hlen C3.out S3.out).mono ?_
  rintro e w4 ⟨v, v0, v1, rfl, hc4, hg4⟩
  have C4 := Lib.hid hc4
  have G4 := Lib.hid (grownBy_trans G3.out hg4)
  clear hc4 hg4
  go_wp2
  go_ret
  exact ⟨_, Int.emod_nonneg _ (by omega), Int.emod_lt_of_pos _ (by omega), rfl, C4.out, G4.out⟩

/-- A drawn number is at least 0 and below the bound. -/
theorem below_any (c : Nat) (ad : Option Addr) (len cap : Nat) (n : Int) (w : World) (hlen : len ≤ 1048576) (hn : 0 < n) (hn2 : n ≤ 4611686018427387904) (hc : Cur w c ad len cap) (hs : Src w c ad len) :
    Calls Tryz.prog 25 #[.pointer (some ⟨c, 0, none⟩), .int .i64 n] w (NumPost n w c ad len cap) := by
  by_cases h : n ≤ 256
  · exact below_small c ad len cap n w hlen hn h hc hs
  · exact below_big c ad len cap n w hlen (by omega) hn2 hc hs

set_option maxRecDepth 100000 in
set_option maxHeartbeats 1000000 in
theorem new_any (ad : Option Addr) (len cap : Nat) (w : World) (hlen : len ≤ 1048576) (hs : Src w w.heap.size ad len) :
    Calls Tryz.prog 12 #[.slice ad len cap] w fun e w' => e = .returned (.pointer (some ⟨w.heap.size, 0, none⟩)) ∧ ∃ h : Int, w' = w.alloc (.cells #[.slice ad len cap, .int .i64 0, .int .i64 h] 55) := by
  have HS := Lib.hid hs
  clear hs
  go_enter Tryz.func12, Tryz.ntmps12
  go_wp2
  go_loop [3, 4] (fun hv iv => ∃ (i : Nat) (h : Int), i ≤ len ∧ hv = .int .i64 h ∧ iv = .int .i64 i) (fun _ iv => len - (intOf iv).toNat)
  case atStart => exact ⟨0, _, Nat.zero_le _, rfl, rfl⟩
  case round =>
    obtain ⟨i, h, hi, rfl, rfl⟩ := hrel
    by_cases hlt : i < len
    · by_cases h4 : i < 4000
      · obtain ⟨b, off, z, rfl, hbc, hz0, hz1, hz⟩ := HS.out i hlt
        go_wp2
        go_round
        case rel => exact ⟨i + 1, _, by omega, rfl, by go_num⟩
        case measure => (simp [intOf]; try omega)
      · go_wp2
        go_ret
        exact ⟨rfl, _, rfl⟩
    · obtain rfl : i = len := by omega
      go_wp2
      go_ret
      exact ⟨rfl, _, rfl⟩
end Draw
end Go.Proofs.YtgpjklnlchbbbaaGreatDoor
namespace Go.Proofs.YtgpjklnlchbbbaaGreatDoor
open Go.RowKit
namespace Draw

theorem cur_grown {w w' : World} {c : Nat} {ad : Option Addr} {len cap : Nat} {row : Option Nat} (h : Cur w c ad len cap) (hg : w.grownBy w' row) (hr : some c ≠ row) : Cur w' c ad len cap := by
  have hl := cur_lt h
  obtain ⟨i, x, hi, hb⟩ := h
  exact ⟨i, x, hi, by rw [hg.block c hl hr]; exact hb⟩
theorem src_grown' {w w' : World} {B : Nat} {ad : Option Addr} {len : Nat} {row : Option Nat} (hs : Src w B ad len) (hg : w.grownBy w' row) (hr : ∀ k, row = some k → B ≤ k) (hB : B ≤ w.heap.size) : Src w' B ad len := by
  intro i hi
  obtain ⟨b, off, z, h1, h2, h3, h4, h5⟩ := hs i hi
  exact ⟨b, off, z, h1, h2, h3, h4, by rw [World.cell?_of_block (w := w) (hg.block b (by omega) (fun e => by have := hr b e.symm; omega))]; exact h5⟩
theorem grown_alloc (w : World) (o : Obj) (r : Option Nat) : w.grownBy (w.alloc o) r := ⟨rfl, rfl, rfl, by simp, fun k hk _ => Below.heap_alloc _ _ _ hk⟩
theorem own_not {w : World} {c e : Nat} {v : Value} {n : Nat} {xs : List Value} (h : w.ownsRow (c + 1) e 1 v n xs) : some c ≠ v.ownBlock := fun e => by
  have := Hexa.own_block_ge h c e.symm
  omega
theorem own_kept {w w' : World} {c e : Nat} {v : Value} {n : Nat} {xs : List Value} (h : w.ownsRow (c + 1) e 1 v n xs) (hg : w.grownBy w' (some c)) : w'.ownsRow (c + 1) e 1 v n xs :=
  h.kept hg (Or.inr (fun e => own_not h e.symm))
theorem below_of_grown {w w' : World} {B : Nat} {row : Option Nat} (hg : w.grownBy w' row) (hr : ∀ k, row = some k → B ≤ k) (hB : B ≤ w.heap.size) : Below B w w' := (Below.refl B w).grown hg hB hr

theorem cur_below {w w' : World} {c B : Nat} {ad : Option Addr} {len cap : Nat} (h : Cur w c ad len cap) (hb : Below B w w') (hc : c < B) : Cur w' c ad len cap := by
  obtain ⟨i, x, hi, hh⟩ := h
  exact ⟨i, x, hi, by rw [hb.block c hc]; exact hh⟩
theorem src_below {w w' : World} {c B : Nat} {ad : Option Addr} {len : Nat} (h : Src w c ad len) (hb : Below B w w') (hc : c ≤ B) : Src w' c ad len := by
  intro i hi
  obtain ⟨b, off, z, h1, h2, h3, h4, h5⟩ := h i hi
  exact ⟨b, off, z, h1, h2, h3, h4, by rw [World.cell?_of_block (w := w) (hb.block b (by omega))]; exact h5⟩
theorem grown_below {a w w' : World} {c B : Nat} (h : a.grownBy w (some c)) (hb : Below B w w') (hB : a.heap.size ≤ B) : a.grownBy w' (some c) :=
  ⟨hb.os.trans h.os, hb.tape.trans h.tape, hb.output.trans h.output, Nat.le_trans h.size hb.size, fun i hi hr => (hb.block i (by omega)).trans (h.block i hi hr)⟩

/-- What a draw leaves: a value, the cursor where it may stand, nothing else written. -/
def DrawPost (Pv : Value → Prop) (w : World) (c : Nat) (ad : Option Addr) (len cap : Nat) (e : Ending) (w' : World) : Prop :=
  ∃ v, Pv v ∧ e = .returned v ∧ Cur w' c ad len cap ∧ w.grownBy w' (some c)
end Draw
end Go.Proofs.YtgpjklnlchbbbaaGreatDoor
namespace Go.Proofs.YtgpjklnlchbbbaaGreatDoor
open Go.RowKit Go.Proofs.YtgpjklnlchbbbaaGreatDoor.Hexa Go.Proofs.YtgpjklnlchbbbaaGreatDoor.Byt
namespace Draw

theorem bytes_kept {w w' : World} {B e c : Nat} {v : Value} {l : List UInt8} (h : Bytes w B e v l) (hg : w.grownBy w' (some c)) (hc : c < B) : Bytes w' B e v l := by
  rcases h with h | ⟨g, cap, cur, fz, hv, hb, hh, r⟩
  · exact .inl h
  · exact .inr ⟨g, cap, cur, fz, hv, hb, by rw [hg.block g (Array.getElem?_eq_some_iff.1 hh).1 (fun e => by simp at e; omega)]; exact hh, r⟩
theorem byte_of (x : Int) (h0 : 0 ≤ x) (h1 : x ≤ 255) : x = ((UInt8.ofNat x.toNat).toNat : Int) := by
  rw [UInt8.toNat_ofNat']; omega

set_option maxRecDepth 100000 in
set_option maxHeartbeats 1000000 in
theorem text_any (c : Nat) (ad : Option Addr) (len cap n : Nat) (w : World) (hlen : len ≤ 1048576) (hn : n ≤ 5000) (hc : Cur w c ad len cap) (hs : Src w c ad len) :
    Calls Tryz.prog 13 #[.pointer (some ⟨c, 0, none⟩), .int .i64 n] w (DrawPost (fun v => ∃ t : ByteArray, v = .string t ∧ t.size = n) w c ad len cap) := by
  have HC := Lib.hid hc
  have HS := Lib.hid hs
  have hlt0 := cur_lt hc
  clear hc hs
  have HC0 : Hid (Cur (w.alloc (.cells #[] 5)) c ad len cap) := Lib.hid (cur_grown HC.out (grown_alloc _ _ none) (by simp))
  have HS0 : Hid (Src (w.alloc (.cells #[] 5)) c ad len) := Lib.hid (src_grown' HS.out (grown_alloc _ _ none) (fun k e => by cases e) (by omega))
  have HG0 : Hid (w.grownBy (w.alloc (.cells #[] 5)) (some c)) := Lib.hid (grown_alloc _ _ _)
  have HB0 : Hid (Bytes (w.alloc (.cells #[] 5)) w.heap.size 5 (.slice (some ⟨w.heap.size, 0, none⟩) 0 0) []) := Lib.hid (bytes_of_own (l := []) (World.ownsRow_lit w #[] 0 (Nat.le_refl _) (by decide) rfl))
  go_enter Tryz.func13, Tryz.ntmps13
  go_wp2
  go_loopw [5, 6] (fun v iv wr => ∃ (k : Nat) (l : List UInt8), k ≤ n ∧ iv = .int .i64 k ∧ l.length = k ∧ Hid (Bytes wr w.heap.size 5 v l) ∧ Hid (Cur wr c ad len cap) ∧ Hid (Src wr c ad len) ∧ Hid (w.grownBy wr (some c)))
    (fun _ iv _ => n - (intOf iv).toNat)
  case atStart => exact ⟨0, [], Nat.zero_le _, rfl, rfl, HB0, HC0, HS0, HG0⟩
  case round =>
    clear HC0 HS0 HG0 HB0
    obtain ⟨k, l, hk, rfl, hl, HB, HCr, HSr, HGr⟩ := hrel
    by_cases hlt : k < n
    · go_wp2_with fail
      refine (byte_any c ad len cap wr hlen HCr.out HSr.out).mono ?_
      rintro e w1 ⟨x, x0, x1, rfl, hc1, hg1⟩
      have HB1 := Lib.hid (bytes_kept HB.out hg1 hlt0)
      have HC1 := Lib.hid hc1
      have HS1 := Lib.hid (src_grown HSr.out hg1 (cur_lt HCr.out))
      have HG1 := Lib.hid (grownBy_trans HGr.out hg1)
      have hsz : w.heap.size ≤ w1.heap.size := HG1.out.size
      clear hc1 hg1
      go_wp2_with (at_builtin; refine wpList_append_out rfl (.tmp 15) (.tmp 19) 22 22 rfl _ _ rfl rfl (outB w1 HB1.out hsz _ (UInt8.ofNat x.toNat) _ (byte_of x x0 x1) (by omega)) ?_; intro v2 w2 hb2 hg2)
      have C2 := Lib.hid (cur_below (cur_grown HC1.out (grown_alloc _ _ none) (by simp)) hg2 hlt0)
      have S2 := Lib.hid (src_below (src_grown' HS1.out (grown_alloc _ _ none) (fun k e => by cases e) (by omega)) hg2 (by omega))
      have G2 := Lib.hid (grown_below (grownBy_trans HG1.out (grown_alloc _ _ _)) hg2 (Nat.le_refl _))
      have HB2 := Lib.hid hb2
      clear hb2 hg2
      go_wp2
      go_roundw
      case rel => exact ⟨k + 1, _, by omega, by go_num, by simp [hl], HB2, C2, S2, G2⟩
      case measure => (simp [intOf]; try omega)
    · obtain rfl : k = n := by omega
      have hconv := bytes_string (P := Tryz.prog) 22 9 Tryz.underlying22 Tryz.underlying5 Tryz.underlying9 HB.out
      go_wp2
      go_ret
      exact ⟨_, ⟨_, rfl, by show l.toArray.size = k; simp [hl]⟩, rfl, HCr.out, HGr.out⟩

end Draw
end Go.Proofs.YtgpjklnlchbbbaaGreatDoor
namespace Go.Proofs.YtgpjklnlchbbbaaGreatDoor
open Go.RowKit Go.Proofs.YtgpjklnlchbbbaaGreatDoor.Hexa Go.Proofs.YtgpjklnlchbbbaaGreatDoor.Byt
namespace Draw

set_option maxRecDepth 100000 in
set_option maxHeartbeats 1000000 in
theorem pickInt_any (c : Nat) (ad : Option Addr) (len cap : Nat) (g n m : Nat) (zs : List Int) (w : World) (hlen : len ≤ 1048576) (hn : 0 < n) (hn2 : n ≤ 1000000) (hz : zs.length = n) (hcell : ∀ j, j < n → w.cell? ⟨g, j, none⟩ = some (.int .i64 (zs.getD j 0))) (hg : g < w.heap.size) (hgc : g ≠ c) (hc : Cur w c ad len cap) (hs : Src w c ad len) :
    Calls Tryz.prog 14 #[.pointer (some ⟨c, 0, none⟩), .slice (some ⟨g, 0, none⟩) n m] w (DrawPost (fun v => ∃ z ∈ zs, v = .int .i64 z) w c ad len cap) := by
  have HC := Lib.hid hc
  have HS := Lib.hid hs
  have HCE := Lib.hid hcell
  clear hc hs hcell
  go_enter Tryz.func14, Tryz.ntmps14
  go_wp2_with fail
  refine (below_any c ad len cap n w hlen (by omega) (by omega) HC.out HS.out).mono ?_
  rintro e w1 ⟨x, x0, x1, rfl, hc1, hg1⟩
  have HC1 := Lib.hid hc1
  have HG1 := Lib.hid hg1
  obtain ⟨k, rfl⟩ : ∃ k : Nat, x = k := ⟨x.toNat, by omega⟩
  have hk : k < n := by omega
  have ck : w1.cell? ⟨g, k, none⟩ = some (.int .i64 (zs.getD k 0)) := by
    rw [World.cell?_of_block (w := w) (hg1.block g hg (fun e => hgc (by simpa using e)))]; exact HCE.out k hk
  have HM : Hid (zs.getD k 0 ∈ zs) := Lib.hid (by
    have e : zs.getD k 0 = zs[k]'(by omega) := by simp [List.getD, show k < zs.length by omega]
    rw [e]; exact List.getElem_mem _)
  obtain ⟨z, hzz⟩ : ∃ z, zs.getD k 0 = z := ⟨_, rfl⟩
  rw [hzz] at ck HM
  clear hc1 hg1 hzz
  go_wp2
  go_ret
  exact ⟨_, ⟨z, HM.out, rfl⟩, rfl, HC1.out, HG1.out⟩
end Draw
end Go.Proofs.YtgpjklnlchbbbaaGreatDoor
namespace Go.Proofs.YtgpjklnlchbbbaaGreatDoor
open Go.RowKit Go.Proofs.YtgpjklnlchbbbaaGreatDoor.Hexa Go.Proofs.YtgpjklnlchbbbaaGreatDoor.Byt
namespace Draw

/-- A number picked out of a list that the call has just laid. -/
theorem pickNum_new (c : Nat) (ad : Option Addr) (len cap : Nat) (n : Nat) (zs : List Int) (cs : Array Value) (t : TypeId) (w : World) (hcs : cs = (zs.map fun z => Value.int .i64 z).toArray) (hlen : len ≤ 1048576) (hn : 0 < n) (hn2 : n ≤ 200) (hz : zs.length = n) (hc : Cur w c ad len cap) (hs : Src w c ad len) :
    Calls Tryz.prog 14 #[.pointer (some ⟨c, 0, none⟩), .slice (some ⟨w.heap.size, 0, none⟩) n n] (w.alloc (.cells cs t)) fun e w' => ∃ z ∈ zs, e = .returned (.int .i64 z) ∧ Cur w' c ad len cap ∧ w.grownBy w' (some c) := by
  have hh := heap_alloc_new w (.cells cs t)
  have hlt := cur_lt hc
  refine (pickInt_any c ad len cap w.heap.size n n zs _ hlen hn (by omega) hz (fun j hj => ?_) (by simp) (by omega) (cur_grown hc (grown_alloc _ _ none) (by simp)) (src_grown' hs (grown_alloc _ _ none) (fun k e => by cases e) (by omega))).mono ?_
  · have h1 : ∀ (o : Option Obj), o = some (.cells cs t) → (match o with | some (.cells c _ _) => c[j]? | _ => none) = some (.int .i64 (zs.getD j 0)) := fun o ho => by
      subst ho
      subst hcs
      have hj' : j < zs.length := by omega
      simp [List.getD, hj']
    exact h1 _ hh
  · rintro e w' ⟨v, ⟨z, hz, rfl⟩, rfl, hc', hg'⟩
    exact ⟨z, hz, rfl, hc', grownBy_trans (grown_alloc w _ _) hg'⟩

def SealPost (w : World) (e : Ending) (w' : World) : Prop := ∃ a b t : ByteArray, e = .returned (.tuple #[.string a, .string b, .string t]) ∧ a.size ≤ 8 ∧ b.size ≤ 12 ∧ t.size ≤ 33 ∧ Below w.heap.size w w'

set_option maxRecDepth 100000 in
set_option maxHeartbeats 1000000 in
theorem drawSeal_any (ad : Option Addr) (len cap : Nat) (w : World) (hlen : len ≤ 1048576) (hs : Src w w.heap.size ad len) :
    Calls Tryz.prog 5 #[.slice ad len cap] w (SealPost w) := by
  have HS := Lib.hid hs
  clear hs
  go_enter Tryz.func5, Tryz.ntmps5
  go_wp2_with fail
  refine (new_any ad len cap w hlen HS.out).mono ?_
  rintro e w1 ⟨rfl, h, rfl⟩
  have C1 : Hid (Cur (w.alloc (.cells #[.slice ad len cap, .int .i64 0, .int .i64 h] 55)) w.heap.size ad len cap) := Lib.hid ⟨0, h, Nat.zero_le _, heap_alloc_new w _⟩
  have S1 : Hid (Src (w.alloc (.cells #[.slice ad len cap, .int .i64 0, .int .i64 h] 55)) w.heap.size ad len) := Lib.hid (src_grown' HS.out (grown_alloc _ _ none) (fun k e => by cases e) (Nat.le_refl _))
  have B1 : Hid (Below w.heap.size w (w.alloc (.cells #[.slice ad len cap, .int .i64 0, .int .i64 h] 55))) := Lib.hid ((Below.refl _ _).alloc (Nat.le_refl _) _)
  generalize w.alloc (.cells #[.slice ad len cap, .int .i64 0, .int .i64 h] 55) = W1 at C1 S1 B1 ⊢
  go_wp2_with fail
  refine (pickNum_new w.heap.size ad len cap 5 [8, 8, 8, 8, 7] _ _ W1 rfl hlen (by decide) (by decide) rfl C1.out S1.out).mono ?_
  rintro e w2 ⟨z, hz, rfl, hc2, hg2⟩
  have S2 := Lib.hid (src_grown S1.out hg2 (cur_lt C1.out))
  have C2 := Lib.hid hc2
  have B2 := Lib.hid (B1.out.grown hg2 (B1.out.size) (fun k e => by simp at e; omega))
  have hz' : 0 ≤ z ∧ z ≤ 8 := by simp at hz; omega
  obtain ⟨m, rfl⟩ : ∃ m : Nat, z = m := ⟨z.toNat, by omega⟩
  clear hc2 hg2 hz C1 S1 B1
  go_wp2_with fail
  refine (text_any w.heap.size ad len cap m w2 hlen (by omega) C2.out S2.out).mono ?_
  rintro e w3 ⟨v, ⟨a, rfl, ha⟩, rfl, hc3, hg3⟩
  have S3 := Lib.hid (src_grown S2.out hg3 (cur_lt C2.out))
  have C3 := Lib.hid hc3
  have B3 := Lib.hid (B2.out.grown hg3 (B2.out.size) (fun k e => by simp at e; omega))
  clear hc3 hg3 C2 S2 B2
  go_wp2_with fail
  refine (pickNum_new w.heap.size ad len cap 4 [12, 12, 12, 11] _ _ w3 rfl hlen (by decide) (by decide) rfl C3.out S3.out).mono ?_
  rintro e w4 ⟨z2, hz2, rfl, hc4, hg4⟩
  have S4 := Lib.hid (src_grown S3.out hg4 (cur_lt C3.out))
  have C4 := Lib.hid hc4
  have B4 := Lib.hid (B3.out.grown hg4 (B3.out.size) (fun k e => by simp at e; omega))
  have hz2' : 0 ≤ z2 ∧ z2 ≤ 12 := by simp at hz2; omega
  obtain ⟨m2, rfl⟩ : ∃ m : Nat, z2 = m := ⟨z2.toNat, by omega⟩
  clear hc4 hg4 hz2 C3 S3 B3
  go_wp2_with fail
  refine (text_any w.heap.size ad len cap m2 w4 hlen (by omega) C4.out S4.out).mono ?_
  rintro e w5 ⟨v, ⟨b, rfl, hb⟩, rfl, hc5, hg5⟩
  have S5 := Lib.hid (src_grown S4.out hg5 (cur_lt C4.out))
  have C5 := Lib.hid hc5
  have B5 := Lib.hid (B4.out.grown hg5 (B4.out.size) (fun k e => by simp at e; omega))
  clear hc5 hg5 C4 S4 B4
  go_wp2_with fail
  refine (pickNum_new w.heap.size ad len cap 5 [32, 32, 32, 31, 33] _ _ w5 rfl hlen (by decide) (by decide) rfl C5.out S5.out).mono ?_
  rintro e w6 ⟨z3, hz3, rfl, hc6, hg6⟩
  have S6 := Lib.hid (src_grown S5.out hg6 (cur_lt C5.out))
  have C6 := Lib.hid hc6
  have B6 := Lib.hid (B5.out.grown hg6 (B5.out.size) (fun k e => by simp at e; omega))
  have hz3' : 0 ≤ z3 ∧ z3 ≤ 33 := by simp at hz3; omega
  obtain ⟨m3, rfl⟩ : ∃ m : Nat, z3 = m := ⟨z3.toNat, by omega⟩
  clear hc6 hg6 hz3 C5 S5 B5
  go_wp2_with fail
  refine (text_any w.heap.size ad len cap m3 w6 hlen (by omega) C6.out S6.out).mono ?_
  rintro e w7 ⟨v, ⟨t, rfl, ht⟩, rfl, hc7, hg7⟩
  have B7 := Lib.hid (B6.out.grown hg7 (B6.out.size) (fun k e => by simp at e; omega))
  clear hc7 hg7 C6 S6 B6
  go_wp2
  go_ret3
  exact ⟨a, b, t, rfl, by omega, by omega, by omega, B7.out⟩
end Draw
end Go.Proofs.YtgpjklnlchbbbaaGreatDoor
namespace Go.Proofs.YtgpjklnlchbbbaaGreatDoor
open Go.RowKit Go.Proofs.YtgpjklnlchbbbaaGreatDoor.Hexa Go.Proofs.YtgpjklnlchbbbaaGreatDoor.Byt Go.Proofs.YtgpjklnlchbbbaaGreatDoor.Aes Go.Proofs.YtgpjklnlchbbbaaGreatDoor.BitsM

def otherU (b : UInt8) : UInt8 := b ^^^ 85
def otherT (s : ByteArray) : ByteArray := txt (s.data.toList.map otherU)
theorem otherT_size (s : ByteArray) : (otherT s).size = s.size := by unfold otherT; rw [txt_size, List.length_map]; simp
theorem otherU_ne (b : UInt8) : otherU b ≠ b := by
  intro h
  have h2 : b ^^^ (b ^^^ 85) = b ^^^ b := by rw [show b ^^^ 85 = b from h]
  rw [← UInt8.xor_assoc, UInt8.xor_self, UInt8.zero_xor] at h2
  exact absurd h2 (by decide)
theorem otherT_ne (s : ByteArray) (h : 0 < s.size) : otherT s ≠ s := by
  intro e
  have e1 : s.data.toList.map otherU = s.data.toList := by
    have := congrArg (fun t => t.data.toList) e
    unfold otherT at this
    rw [txt_list] at this
    exact this
  have hl : 0 < s.data.toList.length := by simpa using h
  match hs : s.data.toList, hl with
  | b :: l, _ =>
    rw [hs] at e1
    simp only [List.map_cons, List.cons.injEq] at e1
    exact otherU_ne b e1.1
theorem other_val (x : UInt8) : bits .xor .u8 (x.toNat : Int) 85 = ((otherU x).toNat : Int) := by
  have := xor8 x 85
  exact this

set_option maxRecDepth 100000 in
set_option maxHeartbeats 1000000 in
theorem others_any (s : ByteArray) (w : World) (hs : s.size ≤ 8000000) :
    Calls Tryz.prog 10 #[.string s] w fun e w' => e = .returned (.string (otherT s)) ∧ Below w.heap.size w w' := by
  have kc0 := run_bytes_of_string (P := Tryz.prog) w 9 22 5 s Tryz.underlying9 Tryz.underlying22 Tryz.underlying5
  have b0 := bytes_conv w 5 s w.heap.size (Nat.le_refl _) (by omega)
  have g0 : Below w.heap.size w (w.drew.alloc (.cells (bytesRow s (grownCap w s.size 0 5)) 5 ((bytesRow s (grownCap w s.size 0 5)).size, (bytesRow s (grownCap w s.size 0 5)).size + 1))) := below_grown _ (Nat.le_refl _) _
  generalize w.drew.alloc (.cells (bytesRow s (grownCap w s.size 0 5)) 5 ((bytesRow s (grownCap w s.size 0 5)).size, (bytesRow s (grownCap w s.size 0 5)).size + 1)) = W0 at b0 g0 kc0
  generalize grownCap w s.size 0 5 = c0 at b0 kc0
  have hsl : s.data.toList.length = s.size := by simp
  have HB := Lib.hid b0
  have HG := Lib.hid g0
  obtain ⟨n, hn⟩ : ∃ n, s.size = n := ⟨_, rfl⟩
  rw [hn] at hsl kc0 HB hs
  clear b0 g0
  go_enter Tryz.func10, Tryz.ntmps10
  go_wp2
  clear kc0
  go_loopw [4] (fun iv wr => ∃ k : Nat, k ≤ n ∧ iv = .int .i64 k ∧ Hid (Bytes wr w.heap.size 5 (.slice (some ⟨w.heap.size, 0, none⟩) n c0) (turnT otherU s.data.toList k)) ∧ Hid (Below w.heap.size w wr))
    (fun iv _ => n - (intOf iv).toNat)
  case atStart => exact ⟨0, Nat.zero_le _, rfl, Lib.hid (by rw [turnT_zero]; exact HB.out), HG⟩
  case round =>
    clear HB HG
    obtain ⟨k, hk, rfl, HW, HL⟩ := hrel
    have htl := turnT_length otherU s.data.toList k
    by_cases hlt : k < n
    · have hkl : k < s.data.toList.length := by omega
      have h9 := HW.out
      have hln : n = (turnT otherU s.data.toList k).length := by omega
      have h10 : Bytes wr w.heap.size 5 (.slice (some ⟨w.heap.size, 0, none⟩) (turnT otherU s.data.toList k).length c0) (turnT otherU s.data.toList k) := by rw [← hln]; exact h9
      obtain ⟨hc, hz, hB⟩ := bytes_at h10 k (by omega)
      have hlk : (turnT otherU s.data.toList k)[k]'(by omega) = s.data.toList[k]'hkl := by
        have h1 := turnT_at otherU s.data.toList k hkl
        rw [List.getElem?_eq_getElem (by omega)] at h1
        exact Option.some.inj h1
      have N1 := bytes_set h10 k (otherU (s.data.toList[k]'hkl))
      rw [turnT_set otherU s.data.toList k hkl, ← hln] at N1
      rw [hlk] at hc
      generalize s.data.toList[k]'hkl = x at hc N1
      have hov := other_val x
      have W1 := Lib.hid N1
      have B1 := Lib.hid (HL.out.setCell (p := ⟨w.heap.size, k, none⟩) (Nat.le_refl _) (.int .u8 ((otherU x).toNat : Int)))
      clear N1 h9 h10 hlk hln hkl htl
      go_wp2
      go_roundw
      case rel => exact ⟨k + 1, by omega, by go_num, W1, B1⟩
      case measure => (simp [intOf]; try omega)
    · obtain rfl : k = n := by omega
      have h9 := HW.out
      have hconv := bytes_string (P := Tryz.prog) 22 9 Tryz.underlying22 Tryz.underlying5 Tryz.underlying9 h9
      rw [show turnT otherU s.data.toList k = s.data.toList.map otherU by rw [← hsl]; exact turnT_all _ _] at hconv
      clear h9
      go_wp2
      go_ret
      exact ⟨rfl, HL.out⟩
end Go.Proofs.YtgpjklnlchbbbaaGreatDoor
