/- Contracts of the reference of layer 16: the same dots; dots in order. -/
import Derived.Test.YtelgaglnmcggkaaGreatDoorLibAH
import Derived.Test.YtelgaglnmcggkaaGreatDoorLibAA
import Derived.Deep.RegionHeld3
import Derived.Deep.RegionLaw
namespace Go.Proofs.YtelgaglnmcggkaaGreatDoor
open Go.RowKit
set_option linter.unusedVariables false

theorem infoDot : (Tryz.prog.info? 35).map (fun i => (i.zero, i.size, i.bytes)) = some (some (.agg #[.int .i64 0, .int .i64 0, .int .i64 0]), 3, 24) := by kernel_rfl

end Go.Proofs.YtelgaglnmcggkaaGreatDoor
