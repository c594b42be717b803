/- EntryWord: the program's. -/
import Derived.Test.YtcckhkihhhchbaaDoorRecRead
import Derived.Test.YtcckhkihhhchbaaDoorNameImpl
import Derived.Test.YtcckhkihhhchbaaDoorNumImplB
import Derived.Test.YtcckhkihhhchbaaDoorWordImpl
namespace Go.Proofs.YtcckhkihhhchbaaDoor
open Go.RowKit Go.Proofs.YtcckhkihhhchbaaDoor.Parts Go.Proofs.YtcckhkihhhchbaaDoor.Hexa Go.Proofs.YtcckhkihhhchbaaDoor.Byt

set_option maxRecDepth 100000 in
set_option maxHeartbeats 1000000 in
theorem implEntryWord_no (p : Int) (m : ByteArray) (w : World) (hm : m.size ≤ 2000000) (h : ¬ EntryOk ⟨p, m⟩) :
    Calls Tryd.prog 17 #[.agg #[.int .i64 p, .string m]] w (SaysT ⟨#[]⟩ w) := by
  by_cases h0 : 1 ≤ p ∧ p ≤ 5
  · have H0 := Lib.hid h0
    have h2 : ¬ NameR m := fun e => h ⟨h0, e⟩
    have HN := Lib.hid (nameB_no h2)
    clear h0 h h2
    go_enter Tryd.func17, Tryd.ntmps17
    go_wp2_with (first | ((with_reducible refine (implIn_yes _ H0.out).mono ?_); rintro e w1 ⟨rfl, rfl⟩) | (go_at_call 18; refine (implName_any m _ hm).mono ?_; rw [HN.out]; rintro e w1 ⟨rfl, rfl⟩))
    go_ret
    exact ⟨rfl, below_bk w _⟩
  · have H0 := Lib.hid h0
    clear h0 h
    go_enter Tryd.func17, Tryd.ntmps17
    go_wp2_with ((with_reducible refine (implIn_no _ H0.out).mono ?_); rintro e w1 ⟨rfl, rfl⟩)
    go_ret
    exact ⟨rfl, below_bk w _⟩

set_option maxRecDepth 100000 in
set_option maxHeartbeats 1000000 in
theorem implEntryWord_yes (p : Int) (m : ByteArray) (w : World) (h : EntryOk ⟨p, m⟩) :
    Calls Tryd.prog 17 #[.agg #[.int .i64 p, .string m]] w (SaysT (entryWordB ⟨p, m⟩) w) := by
  have HE := Lib.hid (entryWordB_yes h)
  obtain ⟨h0, h1⟩ := h
  have H0 : Hid (1 ≤ p ∧ p ≤ 5) := Lib.hid h0
  have HN := Lib.hid (nameB_yes h1)
  have hm : m.size ≤ 7 := h1.1.2
  have T0 := Lib.hid (Bk.alloc w #[.int .i64 p, .string m] 41)
  have B0 := Lib.hid (below_bk w (.cells #[.int .i64 p, .string m] 41))
  have hA : (numTextB p 1).size = 1 := numText_size (k := 1) (by omega) (by have := H0.out.1; omega) (by have := H0.out.2; omega)
  obtain ⟨A, hAe⟩ : ∃ A, numTextB p 1 = A := ⟨_, rfl⟩
  have HA := Lib.hid hAe
  rw [hAe] at hA
  have hA1 : ¬ (9223372036854775807 < A.size + m.size) := by omega
  have T0d := Lib.hid T0.out.drew
  have B0d : Hid (Below w.heap.size w (w.alloc (.cells #[.int .i64 p, .string m] 41)).drew) := Lib.hid B0.out.drew
  clear h0 h1 hAe hA
  go_enter Tryd.func17, Tryd.ntmps17
  go_wp2_with (first | ((with_reducible refine (implIn_yes _ H0.out).mono ?_); rintro e w1 ⟨rfl, rfl⟩) | (go_at_call 18; refine (implName_any m _ (by omega)).mono ?_; rw [HN.out]; rintro e w1 ⟨rfl, rfl⟩))
  go_region_held3 (fun w' => w'.cell? ⟨w.heap.size, 0, none⟩ = some (.int .i64 p) ∧ w'.cell? ⟨w.heap.size, 1, none⟩ = some (.string m))
    (first
      | exact ⟨T0d.out.cell rfl, T0d.out.cell rfl⟩
      | exact ⟨T1.out.cell rfl, T1.out.cell rfl⟩
      | exact ⟨T2.out.cell rfl, T2.out.cell rfl⟩
      | go_keep)
    (first
      | (go_at_call 34; (with_reducible refine (implNum_any p 1 _ (by have := H0.out.2; omega)).mono ?_); rw [HA.out]; rintro e w1 ⟨rfl, hb⟩; have T1 := Lib.hid (T0d.out.later hb); have B1 : Hid (Below w.heap.size w w1) := Lib.hid (B0d.out.trans (hb.mono B0d.out.size)); clear hb)
      | (go_at_call 35; (with_reducible refine (implWord_any (A ++ m) _).mono ?_); rintro e w2 ⟨rfl, hb⟩; have T2 := Lib.hid (T1.out.later hb); have B2 : Hid (Below w.heap.size w w2) := Lib.hid (B1.out.trans (hb.mono B1.out.size)); clear hb))
  go_wp2
  go_ret
  exact ⟨by rw [HE.out, HA.out]; rfl, B2.out⟩
theorem implEntryWord_any (p : Int) (m : ByteArray) (w : World) (hm : m.size ≤ 2000000) :
    Calls Tryd.prog 17 #[.agg #[.int .i64 p, .string m]] w (SaysT (entryWordB ⟨p, m⟩) w) := by
  by_cases h : EntryOk ⟨p, m⟩
  · exact implEntryWord_yes p m w h
  · rw [entryWordB_no h]; exact implEntryWord_no p m w hm h

end Go.Proofs.YtcckhkihhhchbaaDoor
