/- Contracts of the reference of layer 8: addresses in brackets, names, matching. -/
import Derived.Test.YtgibhpljlebcdaaDoorHostRef2
namespace Go.Proofs.YtgibhpljlebcdaaDoor
open Go.RowKit
set_option linter.unusedVariables false

theorem mid_no {l : List UInt8} {p : UInt8 → Bool} {k : Nat} (h0 : 1 ≤ k) (hk : k < l.length - 1) (h : p (l.getD k 0) = false) : ((l.drop 1).take (l.length - 2)).all p = false := by
  refine all_no (k := k - 1) (by rw [List.length_take, List.length_drop]; omega) ?_
  have : ((l.drop 1).take (l.length - 2)).getD (k - 1) 0 = l.getD k 0 := by
    simp only [List.getD, List.getElem?_take, List.getElem?_drop]
    rw [if_pos (by omega)]
    congr 2
    omega
  rw [this]
  exact h
theorem mid_yes {l : List UInt8} {p : UInt8 → Bool} (h : ∀ j, 1 ≤ j → j < l.length - 1 → p (l.getD j 0) = true) : ((l.drop 1).take (l.length - 2)).all p = true := by
  refine all_yes fun j hj => ?_
  rw [List.length_take, List.length_drop] at hj
  have : ((l.drop 1).take (l.length - 2)).getD j 0 = l.getD (j + 1) 0 := by
    simp only [List.getD, List.getElem?_take, List.getElem?_drop]
    rw [if_pos (by omega)]
    congr 2
    omega
  rw [this]
  exact h (j + 1) (by omega) (by omega)

end Go.Proofs.YtgibhpljlebcdaaDoor
