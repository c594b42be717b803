/- Bytes and other numbers: what the functions of chapter 5 say of them. -/
import Derived.Test.YtepnnmckbcomjaaDoorFieldSpec
import Derived.Below
namespace Go.Proofs.YtepnnmckbcomjaaDoor
open Go.RowKit Go.Proofs.YtepnnmckbcomjaaDoor.Fld Go.Proofs.YtepnnmckbcomjaaDoor.BitsM

theorem invF_succ (f out x n : Nat) : invF (f + 1) out x n = invF f (if n % 2 = 1 then mul out x else out) (mul x x) (n / 2) := rfl
theorem invF_zero : ∀ (f out x : Nat), invF f out x 0 = out
  | 0, _, _ => rfl
  | f + 1, out, x => by rw [invF_succ, if_neg (by decide)]; exact invF_zero f out (mul x x)
/-- The inverse of a number that is none of 1 to 255 is 0. -/
def invI (a : Int) : Int := if 1 ≤ a ∧ a ≤ 255 then (inv a.toNat : Int) else 0

/-- The box of a number; 0 where it is no byte's. -/
def boxI (a : Int) : Int := if 0 ≤ a ∧ a ≤ 255 then (turnF (invI a).toNat 5 : Int) else 0
theorem invI_lt (a : Int) : 0 ≤ invI a ∧ invI a < 256 := by
  unfold invI
  split
  · rename_i h
    have := inv_lt a.toNat (by omega)
    omega
  · omega
/-- What the functions say of every number. -/
def dblI (a : Int) : Int := if 0 ≤ a ∧ a ≤ 255 then (dbl a.toNat : Int) else 0
def mulI (a b : Int) : Int := if (0 ≤ a ∧ a ≤ 255) ∧ (0 ≤ b ∧ b ≤ 255) then (mul a.toNat b.toNat : Int) else 0
def powI (a n : Int) : Int := if (0 ≤ a ∧ a ≤ 255) ∧ (0 ≤ n ∧ n ≤ 1000) then (pow a.toNat n.toNat : Int) else 0
theorem below_same {e : Ending} {w w' : World} {v : Int} (h : e = .returned (.int .i64 v) ∧ w' = w) : e = .returned (.int .i64 v) ∧ Below w.heap.size w w' := ⟨h.1, by rw [h.2]; exact Below.refl _ _⟩
end Go.Proofs.YtepnnmckbcomjaaDoor
