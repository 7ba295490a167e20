/- What opens a contract: zero, one, give, and. -/
import Derived.Test.YtdlflpnjmldakaaTermV
namespace Go.Proofs.Ytdlflpnjmldakaa
open Go.RowKit
set_option linter.unusedVariables false
end Go.Proofs.Ytdlflpnjmldakaa
