/- The number of any tree. -/
import Derived.Test.YthhjcpmnekibnaaObsT
namespace Go.Proofs.Ythhjcpmnekibnaa
open Go.RowKit
set_option linter.unusedVariables false

end Go.Proofs.Ythhjcpmnekibnaa
