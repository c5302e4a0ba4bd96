/- The reference's Cells, Type, Con and Name. -/
import Derived.Test.YteidhlfiofiocabZR
set_option linter.unusedVariables false
set_option linter.unusedSimpArgs false
namespace Go.Proofs.Yteidhlfiofiocab
open Go.RowKit Go.Shelf





end Go.Proofs.Yteidhlfiofiocab
