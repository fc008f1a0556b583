/- Contracts of layer 6: a number's digits. -/
import Derived.Test.YtelgaglnmcggkaaGreatDoorLibAC
import Derived.Test.YtelgaglnmcggkaaGreatDoorLibAF
namespace Go.Proofs.YtelgaglnmcggkaaGreatDoor
open Go.RowKit
set_option linter.unusedVariables false

theorem textC (n : Int) (w : World) (h0 : -9223372036854775808 ≤ n) (h1 : n ≤ 9223372036854775807) (hT : PTab Tryz.prog w) :
    Calls Tryz.prog 233 #[.int .i64 n] w (GivesStr (Lib.itoa n) w) := by
  have HI := Tryz.strconv_Itoa n h0 h1 w hT.tab
  go_enter Tryz.func233, Tryz.ntmps233
  go_wp2_with (go_at_call 238; (with_reducible refine HI.mono ?_); rintro e w1 ⟨rfl, k, os, rfl⟩)
  go_ret
  exact ⟨rfl, Lib.below_grow _ w (Nat.le_refl _) k os⟩

end Go.Proofs.YtelgaglnmcggkaaGreatDoor
