/- What opens a contract: or, when. -/
import Derived.Test.YtdlflpnjmldakaaTermV
namespace Go.Proofs.Ytdlflpnjmldakaa
open Go.RowKit
set_option linter.unusedVariables false
end Go.Proofs.Ytdlflpnjmldakaa
