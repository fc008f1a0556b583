/- Contracts of the reference of layer 21: an event that is applied. -/
import Derived.Test.YtelgaglnmcggkaaGreatDoorOrRef11
namespace Go.Proofs.YtelgaglnmcggkaaGreatDoor
open Go.RowKit
set_option linter.unusedVariables false

end Go.Proofs.YtelgaglnmcggkaaGreatDoor
