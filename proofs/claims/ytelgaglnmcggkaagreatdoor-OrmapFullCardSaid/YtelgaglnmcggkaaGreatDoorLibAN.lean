/- Contracts and plain words that the laws' proofs stand on, put together. -/
import Derived.Test.YtelgaglnmcggkaaGreatDoorAttrsPlain
import Derived.Test.YtelgaglnmcggkaaGreatDoorLibAK
import Derived.Test.YtelgaglnmcggkaaGreatDoorLibAM
import Derived.Test.YtelgaglnmcggkaaGreatDoorLibAL
/- Cookies in plain words: items, which are right, which are over, which go with a request. No program in it. -/
namespace Go.Proofs.YtelgaglnmcggkaaGreatDoor
set_option linter.unusedVariables false

/-- A cookie with its key. -/
structure ItemL where
  name : List UInt8
  dom : List UInt8
  path : List UInt8
  val : List UInt8
  host : Bool
  sec : Bool
  http : Bool
  pers : Bool
  exp : Int
  made : Int
  used : Int

def ItemL.none : ItemL := ⟨[], [], [], [], false, false, false, false, 0, 0, 0⟩

/-- A text without controls, semicolons, and blanks at its ends. -/
def plainB (s : List UInt8) : Bool := !s.any ctl && (decide (s.findIdx (· == 59) = s.length) && trimL s == s)

/-- May a cookie be so? -/
def rightX (x : ItemL) : Bool :=
  !(x.name == [] || (decide (256 < x.name.length) || (!plainB x.name || (decide (x.name.findIdx (· == 61) < x.name.length) || (decide (1024 < x.val.length) || !plainB x.val))))) &&
  (!(!canonB x.dom || (x.path == [] || (!(x.path.getD 0 0 == 47) || decide (256 < x.path.length)))) &&
  (decide (-1099511627776 ≤ x.exp) && (decide (x.exp ≤ 1099511627776) && (decide (0 ≤ x.made) && (decide (x.made ≤ 1099511627776) && (decide (0 ≤ x.used) && (decide (x.used ≤ 1099511627776) && (x.pers || x.exp == 1099511627776))))))))

end Go.Proofs.YtelgaglnmcggkaaGreatDoor

/- Contracts of the reference of layer 14: plain texts, public suffixes, what is over. -/
namespace Go.Proofs.YtelgaglnmcggkaaGreatDoor
open Go.RowKit
set_option linter.unusedVariables false

end Go.Proofs.YtelgaglnmcggkaaGreatDoor
