/- What the program says of the types that slices of numbers are of. -/
import Derived.Test.YtfdiomghoheljaaRows
import Derived.Test.YtfdiomghoheljaaPlain
import Derived.ProofKit
namespace Go.Proofs.Ytfdiomghoheljaa
open Go.RowKit
set_option linter.unusedVariables false

theorem info8 : (Try.prog.info? 5).map (fun i => (i.zero, i.size, i.bytes)) = some (some (.int .u8 0), 1, 1) := by kernel_rfl
end Go.Proofs.Ytfdiomghoheljaa
