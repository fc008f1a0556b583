/- Contracts of the reference of layer 6. -/
import Derived.Test.YtilgcphpieiliaaAscii4
namespace Go.Proofs.Ytilgcphpieiliaa
open Go.RowKit
set_option linter.unusedVariables false

end Go.Proofs.Ytilgcphpieiliaa
