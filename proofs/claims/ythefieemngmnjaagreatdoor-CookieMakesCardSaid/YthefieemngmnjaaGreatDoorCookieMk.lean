/- Contracts of the reference of layer 14: what is made of a header's pair and attributes. -/
import Derived.Test.YthefieemngmnjaaGreatDoorLibAM
import Derived.Test.YthefieemngmnjaaGreatDoorCookieRef2
import Derived.Test.YthefieemngmnjaaGreatDoorUriRef4
import Derived.Test.YthefieemngmnjaaGreatDoorLibAE
import Derived.Test.YthefieemngmnjaaGreatDoorAttrsRef
import Derived.Test.YthefieemngmnjaaGreatDoorLibAL
import Derived.Test.YthefieemngmnjaaGreatDoorLibAG
import Derived.Test.YthefieemngmnjaaGreatDoorLibAI
import Derived.Deep.DeepCutAuto
namespace Go.Proofs.YthefieemngmnjaaGreatDoor
open Go.RowKit
set_option linter.unusedVariables false

theorem clamp_two (now : Int) : (if 1099511627776 < (if now < 0 then 0 else now) then 1099511627776 else (if now < 0 then 0 else now)) = clampA now := by
  unfold clampA
  split <;> split <;> (try split) <;> omega

end Go.Proofs.YthefieemngmnjaaGreatDoor
