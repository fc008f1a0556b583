/- Layer 8's laws, walked. -/
import Derived.Test.YtgibhpljlebcdaaDoorHostRef4
import Derived.Test.YtgibhpljlebcdaaDoorAsciiRef
namespace Go.Proofs.YtgibhpljlebcdaaDoor
open Go.RowKit
set_option linter.unusedVariables false

end Go.Proofs.YtgibhpljlebcdaaDoor
