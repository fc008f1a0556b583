/- What attributes say, in plain words. No program in it. -/
import Derived.Test.YtelgaglnmcggkaaGreatDoorLibAL
import Derived.Test.YtelgaglnmcggkaaGreatDoorLibAG
namespace Go.Proofs.YtelgaglnmcggkaaGreatDoor
set_option linter.unusedVariables false

/-- What attributes say. -/
structure FieldsL where
  hexp : Bool
  hage : Bool
  hdom : Bool
  hpath : Bool
  exp : Int
  age : Int
  dom : List UInt8
  path : List UInt8
  sec : Bool
  http : Bool

def FieldsL.none : FieldsL := ⟨false, false, false, false, 0, 0, [], [], false, false⟩

end Go.Proofs.YtelgaglnmcggkaaGreatDoor
