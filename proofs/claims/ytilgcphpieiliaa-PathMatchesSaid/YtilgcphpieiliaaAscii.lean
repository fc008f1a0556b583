/- Contracts of layer 6: single bytes. -/
import Derived.Test.YtilgcphpieiliaaRows
import Derived.Test.YtilgcphpieiliaaAsciiPlain
import Derived.Test.YtilgcphpieiliaaPlain
import Derived.BigQuiet
import Derived.Deep.QuietTactic
import Derived.Deep.RegionHeld3
namespace Go.Proofs.Ytilgcphpieiliaa
open Go.RowKit
set_option linter.unusedVariables false

/-- BEGIN first -/
theorem first_begin : True := trivial

end Go.Proofs.Ytilgcphpieiliaa
