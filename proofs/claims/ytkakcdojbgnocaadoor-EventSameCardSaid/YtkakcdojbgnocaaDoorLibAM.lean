/- Contracts and plain words that the laws' proofs stand on, put together. -/
import Derived.Test.YtkakcdojbgnocaaDoorLibAF
import Derived.Test.YtkakcdojbgnocaaDoorLibAL
import Derived.Test.YtkakcdojbgnocaaDoorLibAC
import Derived.Test.YtkakcdojbgnocaaDoorLibAA
import Derived.Deep.RegionHeld3
import Derived.BigQuiet
/- Headers in plain words: the pair, the attributes, the text that is parted so. No program in it. -/
namespace Go.Proofs.YtkakcdojbgnocaaDoor
set_option linter.unusedVariables false

end Go.Proofs.YtkakcdojbgnocaaDoor

/- Contracts of the reference of layer 12: a pair. -/
namespace Go.Proofs.YtkakcdojbgnocaaDoor
open Go.RowKit
set_option linter.unusedVariables false

end Go.Proofs.YtkakcdojbgnocaaDoor

/- Contracts of the reference of layer 12: a header, parted. -/
namespace Go.Proofs.YtkakcdojbgnocaaDoor
open Go.RowKit
set_option linter.unusedVariables false

theorem RowOf.none {α : Type} (enc : α → List Value) (z : Nat) (w : World) : RowOf enc z w .none 0 0 ([] : List α) :=
  ⟨rfl, Nat.le_refl _, by unfold maxLen; omega, fun _ => rfl, fun i x h => by simp at h⟩

end Go.Proofs.YtkakcdojbgnocaaDoor

/- Contracts of the reference of layer 12: the last of a name, the text, are attributes the same. -/
namespace Go.Proofs.YtkakcdojbgnocaaDoor
open Go.RowKit
set_option linter.unusedVariables false

theorem below_drawn {B : Nat} {a w : World} (h : Below B a w) (k : Nat) : Below B a (w.drewN k) := ⟨h.os, h.tape, h.output, h.size, h.block⟩

end Go.Proofs.YtkakcdojbgnocaaDoor
