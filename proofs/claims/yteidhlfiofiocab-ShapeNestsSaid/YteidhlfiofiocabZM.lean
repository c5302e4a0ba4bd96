/- What Recursive does. -/
import Derived.Test.YteidhlfiofiocabZL
set_option linter.unusedVariables false
set_option linter.unusedSimpArgs false
namespace Go.Proofs.Yteidhlfiofiocab
open Go.RowKit Go.Shelf



namespace Dt
def hasT (t : Int) (l : List Int) : Bool := l.any (fun x => t == x)
def recC (t : Int) (c : ConM) : Bool := hasT t c.fields
def recT (d : List DataM) (t x : Int) : Bool := (consOf d x).any (recC t)
def recB (d : List DataM) (t : Int) : Bool := (reach d t).any (recT d t)
theorem reach_length {d : List DataM} (hd : Sm d) (t : Int) : (reach d t).length ≤ 101 := by
  have h1 := reach_bound d 150 t []
  have h2 := unmet_le d []
  have h3 := hd.1
  unfold reach
  simp at h1
  omega
end Dt








end Go.Proofs.Yteidhlfiofiocab
