/- isIn: sets of kinds. -/
import Derived.Test.YtpeihgbkolihgaaDoorU1
import Derived.Deep.QuietTactic
import Derived.BigQuiet
set_option linter.unusedVariables false
set_option linter.unusedSimpArgs false
namespace Go.Proofs.YtpeihgbkolihgaaDoor
open Go.RowKit

namespace Sx
/-- Is a kind in a set? -/
def inSet (K k : Int) : Bool := decide (0 ≤ k) && decide (0 < bits BinOp.and IntKind.i64 (K / 2 ^ min k.toNat 64) 1)
end Sx

set_option maxRecDepth 100000 in
set_option maxHeartbeats 1600000 in
theorem isIn_any (K k : Int) (r : Bool) (w : World) (hr : Hid (Sx.inSet K k = r)) :
    Calls Tryd.prog 56 #[.int .i64 K, .int .i64 k] w fun e w' => e = .returned (.bool r) ∧ w' = w := by
  have h := hr.out
  unfold Sx.inSet at h
  clear hr
  by_cases h0 : 0 ≤ k
  · have hd : decide (0 ≤ k) = true := decide_eq_true h0
    rw [hd, Bool.true_and] at h
    have HR := Lib.hid h
    clear h
    go_enter Tryd.func56, Tryd.ntmps56
    go_wp2
    go_ret
    exact ⟨by rw [← HR.out] <;> rfl, rfl⟩
  · have hd : decide (0 ≤ k) = false := decide_eq_false h0
    obtain rfl : r = false := by rw [← h, hd]; rfl
    clear h
    go_enter Tryd.func56, Tryd.ntmps56
    go_wp2
    go_ret
    exact ⟨rfl, rfl⟩

end Go.Proofs.YtpeihgbkolihgaaDoor
