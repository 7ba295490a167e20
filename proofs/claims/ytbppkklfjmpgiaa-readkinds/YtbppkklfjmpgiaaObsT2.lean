/- The number of any tree. -/
import Derived.Test.YtbppkklfjmpgiaaObsT
namespace Go.Proofs.Ytbppkklfjmpgiaa
open Go.RowKit
set_option linter.unusedVariables false

end Go.Proofs.Ytbppkklfjmpgiaa
