/- The program's own contracts of layer 20: the same events; a clone. -/
import Derived.Test.YtkakcdojbgnocaaGreatDoorEvRight
import Derived.Test.YtkakcdojbgnocaaGreatDoorLibAA
namespace Go.Proofs.YtkakcdojbgnocaaGreatDoor
end Go.Proofs.YtkakcdojbgnocaaGreatDoor
