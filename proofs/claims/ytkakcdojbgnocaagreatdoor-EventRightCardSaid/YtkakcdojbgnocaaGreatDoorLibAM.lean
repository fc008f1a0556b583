/- Contracts and plain words that the laws' proofs stand on, put together. -/
import Derived.Test.YtkakcdojbgnocaaGreatDoorLibAF
import Derived.Test.YtkakcdojbgnocaaGreatDoorLibAL
import Derived.Test.YtkakcdojbgnocaaGreatDoorLibAC
import Derived.Test.YtkakcdojbgnocaaGreatDoorLibAA
import Derived.Deep.RegionHeld3
import Derived.BigQuiet
/- Headers in plain words: the pair, the attributes, the text that is parted so. No program in it. -/
namespace Go.Proofs.YtkakcdojbgnocaaGreatDoor
set_option linter.unusedVariables false

end Go.Proofs.YtkakcdojbgnocaaGreatDoor

/- Contracts of the reference of layer 12: a pair. -/
namespace Go.Proofs.YtkakcdojbgnocaaGreatDoor
open Go.RowKit
set_option linter.unusedVariables false

theorem refFindEqC (l : List UInt8) (n : Nat) (w : World) (hl : l.length = n) (hm : n ≤ maxLen) :
    Calls Tryz.prog 48 #[.string (str l), .int .u8 61] w fun e w' => e = .returned (.int .i64 (findL l 61)) ∧ w = w' := refFindC l 61 n w hl hm

end Go.Proofs.YtkakcdojbgnocaaGreatDoor

/- Contracts of the reference of layer 12: a header, parted. -/
namespace Go.Proofs.YtkakcdojbgnocaaGreatDoor
open Go.RowKit
set_option linter.unusedVariables false

theorem RowOf.none {α : Type} (enc : α → List Value) (z : Nat) (w : World) : RowOf enc z w .none 0 0 ([] : List α) :=
  ⟨rfl, Nat.le_refl _, by unfold maxLen; omega, fun _ => rfl, fun i x h => by simp at h⟩

end Go.Proofs.YtkakcdojbgnocaaGreatDoor

/- Contracts of the reference of layer 12: the last of a name, the text, are attributes the same. -/
namespace Go.Proofs.YtkakcdojbgnocaaGreatDoor
open Go.RowKit
set_option linter.unusedVariables false

end Go.Proofs.YtkakcdojbgnocaaGreatDoor
