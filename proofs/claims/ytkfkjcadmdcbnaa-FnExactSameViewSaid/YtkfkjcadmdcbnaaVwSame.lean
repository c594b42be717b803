/- SameView: the model's, the program's. -/
import Derived.Test.YtkfkjcadmdcbnaaTViewE
import Derived.Test.YtkfkjcadmdcbnaaSays
import Derived.Test.YtkfkjcadmdcbnaaTextEq
import Derived.Test.YtkfkjcadmdcbnaaMarkAt
import Derived.Test.YtkfkjcadmdcbnaaDrews
namespace Go.Proofs.Ytkfkjcadmdcbnaa
open Go.RowKit Go.Proofs.Ytkfkjcadmdcbnaa.Parts Go.Proofs.Ytkfkjcadmdcbnaa.Hexa

instance : DecidableEq ItemR := fun a b => by
  cases a with | mk p d t => cases b with | mk p2 d2 t2 =>
  exact if h : p = p2 ∧ d = d2 ∧ t = t2 then .isTrue (by obtain ⟨rfl, rfl, rfl⟩ := h; rfl) else .isFalse (fun e => h (by cases e; exact ⟨rfl, rfl, rfl⟩))
theorem bytes_neV {a b : ByteArray} (h : ¬ a = b) : (a == b) = false := by
  cases a with | mk a => cases b with | mk b =>
  show (a == b) = false
  have : ¬ a = b := fun e => h (by rw [e])
  simpa using this
theorem bytes_eqV (a : ByteArray) : (a == a) = true := by
  cases a with | mk a =>
  show (a == a) = true
  simp
set_option maxRecDepth 100000 in
set_option maxHeartbeats 2000000 in
theorem equal_item (d : Nat) (x y : ItemR) (w : World) : (Op.equalIn (d + 2) 28 (.agg #[.string x.path, .bool x.dir, .string x.text]) (.agg #[.string y.path, .bool y.dir, .string y.text])).run Try.prog w = .ok (decide (x = y)) w := by
  obtain ⟨p, b, t⟩ := x
  obtain ⟨p2, b2, t2⟩ := y
  by_cases h1 : p = p2
  · subst h1
    by_cases h2 : b = b2
    · subst h2
      by_cases h3 : t = t2
      · subst h3
        simp [Op.equalIn, go_sem, bytes_eqV]
      · have e : decide ((⟨p, b, t⟩ : ItemR) = ⟨p, b, t2⟩) = false := decide_eq_false (fun e => h3 (by cases e; rfl))
        have h4 := bytes_neV h3
        rw [e]
        simp [Op.equalIn, go_sem, h4, bytes_eqV]
    · have e : decide ((⟨p, b, t⟩ : ItemR) = ⟨p, b2, t2⟩) = false := decide_eq_false (fun e => h2 (by cases e; rfl))
      rw [e]
      simp [Op.equalIn, go_sem, h2, bytes_eqV]
  · have e : decide ((⟨p, b, t⟩ : ItemR) = ⟨p2, b2, t2⟩) = false := decide_eq_false (fun e => h1 (by cases e; rfl))
    have h4 := bytes_neV h1
    rw [e]
    simp [Op.equalIn, go_sem, h4]
theorem neq_item (x y : ItemR) (w : World) : (binOp .neq 28 (.agg #[.string x.path, .bool x.dir, .string x.text]) (.agg #[.string y.path, .bool y.dir, .string y.text])).run Try.prog w = .ok (.bool (!decide (x = y))) w := by
  simp only [binOp]
  simp [Op.equal, Op.maxDepth, equal_item 9998 x y w]
end Go.Proofs.Ytkfkjcadmdcbnaa
