/- The reference's Cells, Type, Con and Name. -/
import Derived.Test.YtphlokjhfbfogaaZR
set_option linter.unusedVariables false
set_option linter.unusedSimpArgs false
namespace Go.Proofs.Ytphlokjhfbfogaa
open Go.RowKit Go.Shelf





end Go.Proofs.Ytphlokjhfbfogaa
