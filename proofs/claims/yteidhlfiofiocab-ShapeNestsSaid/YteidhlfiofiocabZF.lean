/- slices.Backward over constructors and over fields: what its iterators yield. -/
import Derived.Test.YteidhlfiofiocabZE
import Derived.RangeFuncNested
import Derived.RangeFuncBound
import Derived.RangeFuncCalls
import Derived.RangeFuncLeaves
import Derived.Shelf.Abstract
import Derived.Shelf.RegionOpen
import Derived.WalkKit
import Derived.OwnWalkIn
import Derived.TacticsInMore
import Derived.LoopNIn
import Derived.LoopIn
set_option linter.unusedVariables false
set_option linter.unusedSimpArgs false
namespace Go.Proofs.Yteidhlfiofiocab
open Go.RowKit Go.Shelf
attribute [local go_sem] Oper.semAt_some

/-- A constructor as a row of w0 holds it, with its place. -/
abbrev AC (w0 : World) := { x : Int × ConM × (Option Addr × Nat) // FsAt w0 (.slice x.2.2.1 x.2.1.fields.length x.2.2.2) x.2.1.fields ∧ SmC x.2.1 }
def encC (w0 : World) (x : AC w0) : Array Value := #[.int .i64 x.1.1, .agg #[.string x.1.2.1.name, .slice x.1.2.2.1 x.1.2.1.fields.length x.1.2.2.2]]
/-- A field with its place. -/
abbrev AF := { x : Int × Int // In64 x.2 }
def encF (x : AF) : Array Value := #[.int .i64 x.1.1, .int .i64 x.1.2]

theorem wrap_pred (k : Nat) (h : k ≤ 100000) : IntKind.i64.wrap ((k : Int) - 1) = (k : Int) - 1 := by rw [IntWalk.i64_in _ (by omega)]
theorem wrap_pred2 (k : Nat) (h : k ≤ 100000) : wrap64 ((k : Int) - 1) = (k : Int) - 1 := by rw [IntWalk.wrap64_in _ (by omega)]



end Go.Proofs.Yteidhlfiofiocab
