/- InodeOk of the model. -/
import Derived.Test.YtcckhkihhhchbaaInoSpecB
import Derived.Test.YtcckhkihhhchbaaInoSpecD
namespace Go.Proofs.Ytcckhkihhhchbaa
open Go.RowKit Go.Proofs.Ytcckhkihhhchbaa.Parts Go.Proofs.Ytcckhkihhhchbaa.Hexa Go.Proofs.Ytcckhkihhhchbaa.Byt

theorem inoB_iff {n : InoR} : inoB n = true ↔ InoOk n := by
  by_cases h : InoOk n
  · exact ⟨fun _ => h, fun _ => inoB_yes h⟩
  · exact ⟨fun e => by rw [inoB_no h] at e; exact absurd e (by decide), fun e => absurd e h⟩

theorem inoOk_free {sz gn : Int} {key : ByteArray} {R : List RecR} {E : List EntryR} (h : 0 ≤ gn ∧ gn ≤ 65535) : InoOk ⟨0, sz, gn, key, R, E⟩ ↔ (sz = 0 ∧ key.size = 0 ∧ R.length = 0 ∧ E.length = 0) := by
  constructor
  · rintro ⟨_, ⟨_, x⟩ | ⟨e, _⟩ | ⟨e, _⟩⟩
    · exact x
    · exact absurd (show (_ : Int) = _ from e) (by simp)
    · exact absurd (show (_ : Int) = _ from e) (by simp)
  · exact fun x => ⟨h, .inl ⟨rfl, x⟩⟩
theorem inoOk_file {sz gn : Int} {key : ByteArray} {R : List RecR} {E : List EntryR} (h : 0 ≤ gn ∧ gn ≤ 65535) :
    InoOk ⟨1, sz, gn, key, R, E⟩ ↔ ((0 ≤ sz ∧ sz ≤ 128) ∧ key.size = 8 ∧ (R.length : Int) = pagesZ sz ∧ E.length = 0 ∧ RecsOk R R.length) := by
  constructor
  · rintro ⟨_, ⟨e, _⟩ | ⟨_, x⟩ | ⟨e, _⟩⟩
    · exact absurd (show (_ : Int) = _ from e) (by simp)
    · exact x
    · exact absurd (show (_ : Int) = _ from e) (by simp)
  · exact fun x => ⟨h, .inr (.inl ⟨rfl, x⟩)⟩
theorem inoOk_dir {sz gn : Int} {key : ByteArray} {R : List RecR} {E : List EntryR} (h : 0 ≤ gn ∧ gn ≤ 65535) :
    InoOk ⟨2, sz, gn, key, R, E⟩ ↔ (sz = 0 ∧ key.size = 0 ∧ R.length = 0 ∧ E.length ≤ 6 ∧ EntsOk E E.length) := by
  constructor
  · rintro ⟨_, ⟨e, _⟩ | ⟨e, _⟩ | ⟨_, x⟩⟩
    · exact absurd (show (_ : Int) = _ from e) (by simp)
    · exact absurd (show (_ : Int) = _ from e) (by simp)
    · exact x
  · exact fun x => ⟨h, .inr (.inr ⟨rfl, x⟩)⟩

theorem specIno_any (kd sz gn : Int) (key : ByteArray) (aR : Option Addr) (nR cR : Nat) (aE : Option Addr) (nE cE : Nat) (w : World) (R : List RecR) (E : List EntryR)
    (hz : -9223372036854775808 ≤ sz ∧ sz ≤ 9223372036854775807) (hs : SrcRec w aR nR R) (hf : FitRec R nR 2000000) (hs' : SrcEntry w aE nE E) (hf' : FitEntry E nE 2000000) :
    Calls Try.prog 26 #[.agg #[.int .i64 kd, .int .i64 sz, .int .i64 gn, .string key, .slice aR nR cR, .slice aE nE cE]] w (SaysB (inoB ⟨kd, sz, gn, key, R, E⟩) w) := by
  have hlR : R.length = nR := hs.len
  have hlE : E.length = nE := hs'.len
  by_cases h : 0 ≤ gn ∧ gn ≤ 65535
  · by_cases h0 : kd = 0
    · subst h0
      refine specIno_free sz gn key aR nR cR aE nE cE w h _ ?_
      rw [inoB_iff, inoOk_free h, hlR, hlE]
    · by_cases h1 : kd = 1
      · subst h1
        by_cases hh : (0 ≤ sz ∧ sz ≤ 128) ∧ key.size = 8 ∧ (nR : Int) = pagesZ sz ∧ nE = 0
        · obtain ⟨g1, g2, g3, rfl⟩ := hh
          refine specIno_file sz gn key aR nR cR aE cE w R h g1 g2 g3 hs hf _ ?_
          rw [inoB_iff, inoOk_file h, hlR, hlE]
          exact ⟨fun x => x.2.2.2.2, fun x => ⟨g1, g2, g3, rfl, x⟩⟩
        · rw [inoB_no (fun x => by
            rw [inoOk_file h, hlR, hlE] at x
            exact hh ⟨x.1, x.2.1, x.2.2.1, x.2.2.2.1⟩)]
          exact specIno_fileNo sz gn key aR nR cR aE nE cE w h hz hh
      · by_cases h2 : kd = 2
        · subst h2
          by_cases hh : sz = 0 ∧ key.size = 0 ∧ nR = 0 ∧ nE ≤ 6
          · obtain ⟨rfl, g2, rfl, g4⟩ := hh
            obtain rfl : key = ⟨#[]⟩ := text_nothing g2
            refine specIno_dir gn aR cR aE nE cE w E h g4 hs' hf' _ ?_
            rw [inoB_iff, inoOk_dir h, hlR, hlE]
            exact ⟨fun x => x.2.2.2.2, fun x => ⟨rfl, rfl, rfl, g4, x⟩⟩
          · rw [inoB_no (fun x => by
              rw [inoOk_dir h, hlR, hlE] at x
              exact hh ⟨x.1, x.2.1, x.2.2.1, x.2.2.2.1⟩)]
            exact specIno_dirNo sz gn key aR nR cR aE nE cE w h hh
        · rw [inoB_no (fun x => by
            unfold InoOk at x
            rcases x with ⟨_, ⟨e, _⟩ | ⟨e, _⟩ | ⟨e, _⟩⟩
            · exact h0 e
            · exact h1 e
            · exact h2 e)]
          exact specIno_other kd sz gn key aR nR cR aE nE cE w h h0 h1 h2
  · rw [inoB_no (fun x => h x.1)]
    exact specIno_gen kd sz gn key aR nR cR aE nE cE w h
end Go.Proofs.Ytcckhkihhhchbaa
