/- Contracts of the reference of layer 14: which cookies are right. -/
import Derived.Test.YtelgaglnmcggkaaGreatDoorLibAN
namespace Go.Proofs.YtelgaglnmcggkaaGreatDoor
open Go.RowKit
set_option linter.unusedVariables false

end Go.Proofs.YtelgaglnmcggkaaGreatDoor
