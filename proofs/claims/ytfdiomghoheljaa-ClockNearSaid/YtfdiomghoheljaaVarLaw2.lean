/- The walks of layer 2's laws on what is got. -/
import Derived.Test.YtfdiomghoheljaaVarLaw
import Derived.Deep.RegionHeld3
namespace Go.Proofs.Ytfdiomghoheljaa
open Go.RowKit
set_option linter.unusedVariables false

theorem got_err (l : List Int) : ∀ (i : Nat) (n : Int), (got l i n).2.2 = 0 ∨ (got l i n).2.2 = 1 ∨ (got l i n).2.2 = 2 := by
  induction l with
  | nil => intro i n; simp [got]
  | cons c r ih =>
    intro i n
    rw [got]
    split
    · simp
    · split
      · simp
      · exact ih _ _

end Go.Proofs.Ytfdiomghoheljaa
