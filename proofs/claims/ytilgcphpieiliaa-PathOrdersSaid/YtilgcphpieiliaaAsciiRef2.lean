/- Contracts of the reference of layer 6: places, digits, controls, numbers. -/
import Derived.Test.YtilgcphpieiliaaAsciiRef
namespace Go.Proofs.Ytilgcphpieiliaa
open Go.RowKit
set_option linter.unusedVariables false

/-- Where the first byte c stands; -1: nowhere. -/
def findL (l : List UInt8) (c : UInt8) : Int := if l.findIdx (· == c) = l.length then -1 else (l.findIdx (· == c) : Int)

end Go.Proofs.Ytilgcphpieiliaa
