/- Texts that a call owns, compared. -/
import Derived.Test.YtppdjhchangikaaOwnC
import Derived.Test.YtppdjhchangikaaEqTexts
namespace Go.Proofs.Ytppdjhchangikaa
open Go.RowKit Go.Proofs.Ytppdjhchangikaa.Parts Go.Proofs.Ytppdjhchangikaa.Hexa
theorem eqTT (v1 v2 : Value) (B1 T1 B2 T2 n : Nat) (P : List ByteArray) (w : World) (hP : P.length = n) (hn : n ≤ 100000000) (h1 : OwnT 9 w B1 T1 v1 n (scells P)) (h2 : OwnT 9 w B2 T2 v2 n (scells P)) :
    Calls Try.prog 25 #[v1, v2] w fun e w' => e = .returned (.bool true) ∧ ∃ m, w' = w.drewN m := by
  obtain ⟨a1, c1, rfl, r1⟩ := h1.reads
  obtain ⟨a2, c2, rfl, r2⟩ := h2.reads
  exact eqStrings_any a1 a2 n c1 c2 P w hP hn r1 r2
end Go.Proofs.Ytppdjhchangikaa
