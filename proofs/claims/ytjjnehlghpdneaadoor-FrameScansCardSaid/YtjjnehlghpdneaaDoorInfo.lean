/- What the program says of the types that slices of numbers are of. -/
import Derived.Test.YtjjnehlghpdneaaDoorRows
import Derived.Test.YtjjnehlghpdneaaDoorPlain
import Derived.ProofKit
namespace Go.Proofs.YtjjnehlghpdneaaDoor
open Go.RowKit
set_option linter.unusedVariables false

theorem info8 : (Tryd.prog.info? 5).map (fun i => (i.zero, i.size, i.bytes)) = some (some (.int .u8 0), 1, 1) := by kernel_rfl
end Go.Proofs.YtjjnehlghpdneaaDoor
