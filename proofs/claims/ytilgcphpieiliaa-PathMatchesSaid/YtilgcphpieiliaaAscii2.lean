/- Contracts of layer 6: texts. -/
import Derived.Test.YtilgcphpieiliaaAscii
import Derived.Below
import Derived.Test.YtilgcphpieiliaaOwn
namespace Go.Proofs.Ytilgcphpieiliaa
open Go.RowKit
set_option linter.unusedVariables false

/-- A text is answered; what was there is as it was. -/
def GivesStr (l : List UInt8) (w : World) (e : Ending) (w' : World) : Prop := e = .returned (.string (str l)) ∧ Below w.heap.size w w'

/-- What is ahead of the first byte c, what is behind it, and whether there is one. -/
def cutL (l : List UInt8) (c : UInt8) : List UInt8 × List UInt8 × Bool :=
  if l.findIdx (· == c) = l.length then (l, [], false) else (l.take (l.findIdx (· == c)), l.drop (l.findIdx (· == c) + 1), true)

end Go.Proofs.Ytilgcphpieiliaa
