/- The program's own contracts of layer 19: which of two stamps is ahead (cmp.Or over three comparisons). -/
import Derived.Test.YtelgaglnmcggkaaGreatDoorClockUp
import Derived.Test.YtelgaglnmcggkaaGreatDoorLibAA
namespace Go.Proofs.YtelgaglnmcggkaaGreatDoor
open Go.RowKit
set_option linter.unusedVariables false

end Go.Proofs.YtelgaglnmcggkaaGreatDoor
