/- Contracts and plain words that the laws' proofs stand on, put together. -/
import Derived.Test.YtkakcdojbgnocaaDoorLibAL
/- Paths in plain words: directories, which path fits which. No program in it. -/
namespace Go.Proofs.YtkakcdojbgnocaaDoor
open Go.RowKit
set_option linter.unusedVariables false

/-- The place behind the last slash of the first so many bytes; 0: there is none. -/
def lastS (l : List UInt8) : Nat → Nat
  | 0 => 0
  | k + 1 => if (l.getD k 0 == 47) = true then k + 1 else lastS l k

/-- A path's directory. -/
def defaultL (l : List UInt8) : List UInt8 := if lastS l l.length ≤ 1 ∨ l.getD 0 0 ≠ 47 then [47] else l.take (lastS l l.length - 1)
/-- Does a path fit a cookie's? -/
def fitP (p c : List UInt8) : Bool := decide (c.length ≤ p.length) && (p.take c.length == c && (decide (p.length = c.length) || (decide (0 < c.length) && c.getD (c.length - 1) 0 == 47 || p.getD c.length 0 == 47)))
def slashN (l : List UInt8) : Nat := l.countP (· == 47)

end Go.Proofs.YtkakcdojbgnocaaDoor

/- Contracts of the reference of layer 11. -/
namespace Go.Proofs.YtkakcdojbgnocaaDoor
open Go.RowKit
set_option linter.unusedVariables false

end Go.Proofs.YtkakcdojbgnocaaDoor

/- Contracts of the reference of layer 11: which path fits which. -/
namespace Go.Proofs.YtkakcdojbgnocaaDoor
open Go.RowKit
set_option linter.unusedVariables false

end Go.Proofs.YtkakcdojbgnocaaDoor
