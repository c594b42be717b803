/- What an inode has besides, by its kind; InodeOk: the program's. -/
import Derived.Test.YtcckhkihhhchbaaFileImpl
import Derived.Test.YtcckhkihhhchbaaDirImpl
namespace Go.Proofs.Ytcckhkihhhchbaa
open Go.RowKit Go.Proofs.Ytcckhkihhhchbaa.Parts Go.Proofs.Ytcckhkihhhchbaa.Hexa Go.Proofs.Ytcckhkihhhchbaa.Byt

/-- What bodyOf returns. -/
def bodyV (kd sz : Int) (key : ByteArray) (aR : Option Addr) (nR cR : Nat) (aE : Option Addr) (nE cE : Nat) : Value :=
  if kd = 0 then .iface 78 (.agg #[]) else if kd = 1 then .iface 73 (.agg #[.int .i64 sz, .string key, .slice aR nR cR])
  else if kd = 2 then .iface 76 (.agg #[.slice aE nE cE]) else .nilIface

section
variable (kd sz gn : Int) (key : ByteArray) (aR : Option Addr) (nR cR : Nat) (aE : Option Addr) (nE cE : Nat) (w : World)

set_option maxRecDepth 100000 in
set_option maxHeartbeats 1000000 in
theorem implBody_any :
    Calls Try.prog 50 #[.agg #[.int .i64 kd, .int .i64 sz, .int .i64 gn, .string key, .slice aR nR cR, .slice aE nE cE]] w fun e w' => e = .returned (bodyV kd sz key aR nR cR aE nE cE) ∧ Below w.heap.size w w' := by
  have B0 := Lib.hid (below_bk w (inoObj kd sz gn key aR nR cR aE nE cE))
  by_cases h0 : kd = 0
  · subst h0
    go_enter Try.func50, Try.ntmps50
    go_wp2
    go_ret
    exact ⟨rfl, B0.out⟩
  · have e0 : (kd == 0) = false := by simpa using h0
    by_cases h1 : kd = 1
    · subst h1
      go_enter Try.func50, Try.ntmps50
      go_wp2
      go_ret
      exact ⟨rfl, B0.out⟩
    · have e1 : (kd == 1) = false := by simpa using h1
      by_cases h2 : kd = 2
      · subst h2
        go_enter Try.func50, Try.ntmps50
        go_wp2
        go_ret
        exact ⟨rfl, B0.out⟩
      · have e2 : (kd == 2) = false := by simpa using h2
        have HE : Hid (bodyV kd sz key aR nR cR aE nE cE = .nilIface) := Lib.hid (by unfold bodyV; rw [if_neg h0, if_neg h1, if_neg h2])
        clear h0 h1 h2
        go_enter Try.func50, Try.ntmps50
        go_wp2
        go_ret
        exact ⟨by rw [HE.out]; rfl, B0.out⟩
end
end Go.Proofs.Ytcckhkihhhchbaa
