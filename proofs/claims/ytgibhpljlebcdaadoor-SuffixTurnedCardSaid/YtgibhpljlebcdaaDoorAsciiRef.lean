/- Contracts of the reference of layer 6. -/
import Derived.Test.YtgibhpljlebcdaaDoorAscii4
namespace Go.Proofs.YtgibhpljlebcdaaDoor
open Go.RowKit
set_option linter.unusedVariables false

end Go.Proofs.YtgibhpljlebcdaaDoor
