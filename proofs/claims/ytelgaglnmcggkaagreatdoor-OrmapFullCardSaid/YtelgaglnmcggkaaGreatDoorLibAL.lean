/- Contracts and plain words that the laws' proofs stand on, put together. -/
import Derived.Test.YtelgaglnmcggkaaGreatDoorLibAF
import Derived.Test.YtelgaglnmcggkaaGreatDoorLibAK
import Derived.Test.YtelgaglnmcggkaaGreatDoorLibAC
import Derived.Test.YtelgaglnmcggkaaGreatDoorLibAA
import Derived.Deep.RegionHeld3
import Derived.BigQuiet
/- Headers in plain words: the pair, the attributes, the text that is parted so. No program in it. -/
namespace Go.Proofs.YtelgaglnmcggkaaGreatDoor
set_option linter.unusedVariables false

end Go.Proofs.YtelgaglnmcggkaaGreatDoor

/- Contracts of the reference of layer 12: a pair. -/
namespace Go.Proofs.YtelgaglnmcggkaaGreatDoor
open Go.RowKit
set_option linter.unusedVariables false

end Go.Proofs.YtelgaglnmcggkaaGreatDoor

/- Contracts of the reference of layer 12: a header, parted. -/
namespace Go.Proofs.YtelgaglnmcggkaaGreatDoor
open Go.RowKit
set_option linter.unusedVariables false

theorem RowOf.none {α : Type} (enc : α → List Value) (z : Nat) (w : World) : RowOf enc z w .none 0 0 ([] : List α) :=
  ⟨rfl, Nat.le_refl _, by unfold maxLen; omega, fun _ => rfl, fun i x h => by simp at h⟩

end Go.Proofs.YtelgaglnmcggkaaGreatDoor

/- Contracts of the reference of layer 12: the last of a name, the text, are attributes the same. -/
namespace Go.Proofs.YtelgaglnmcggkaaGreatDoor
open Go.RowKit
set_option linter.unusedVariables false

end Go.Proofs.YtelgaglnmcggkaaGreatDoor
