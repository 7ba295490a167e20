/- What opens a contract. -/
import Derived.Test.YtdlflpnjmldakaaTermOpenA
import Derived.Test.YtdlflpnjmldakaaTermOpenB
import Derived.Test.YtdlflpnjmldakaaTermOpenC
import Derived.Test.YtdlflpnjmldakaaTermOpenD
import Derived.Test.YtdlflpnjmldakaaTermOpenE
namespace Go.Proofs.Ytdlflpnjmldakaa
open Go.RowKit
set_option linter.unusedVariables false

end Go.Proofs.Ytdlflpnjmldakaa
