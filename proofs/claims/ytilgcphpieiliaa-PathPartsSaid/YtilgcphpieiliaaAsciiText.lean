/- Contracts of layer 6: a number's digits. -/
import Derived.Test.YtilgcphpieiliaaAsciiRef3
import Derived.Test.YtilgcphpieiliaaItoaPlain
namespace Go.Proofs.Ytilgcphpieiliaa
open Go.RowKit
set_option linter.unusedVariables false

end Go.Proofs.Ytilgcphpieiliaa
