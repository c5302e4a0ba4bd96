/- The laws DatasMeasures and DatasFinds. -/
import Derived.Test.YtphlokjhfbfogaaZO
import Derived.Test.YtphlokjhfbfogaaZP
import Derived.Test.YtphlokjhfbfogaaZS
set_option linter.unusedVariables false
set_option linter.unusedSimpArgs false
namespace Go.Proofs.Ytphlokjhfbfogaa
open Go.RowKit Go.Shelf

/-- The fields of a table are numbers of 64 bits. -/
def H64 (d : List DataM) : Prop := ∀ x ∈ d, ∀ c ∈ x.cons, ∀ f ∈ c.fields, In64 f



end Go.Proofs.Ytphlokjhfbfogaa
