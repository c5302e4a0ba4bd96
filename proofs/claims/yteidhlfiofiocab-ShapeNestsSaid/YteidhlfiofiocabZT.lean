/- The laws DatasMeasures and DatasFinds. -/
import Derived.Test.YteidhlfiofiocabZO
import Derived.Test.YteidhlfiofiocabZP
import Derived.Test.YteidhlfiofiocabZS
set_option linter.unusedVariables false
set_option linter.unusedSimpArgs false
namespace Go.Proofs.Yteidhlfiofiocab
open Go.RowKit Go.Shelf

/-- The fields of a table are numbers of 64 bits. -/
def H64 (d : List DataM) : Prop := ∀ x ∈ d, ∀ c ∈ x.cons, ∀ f ∈ c.fields, In64 f



end Go.Proofs.Yteidhlfiofiocab
