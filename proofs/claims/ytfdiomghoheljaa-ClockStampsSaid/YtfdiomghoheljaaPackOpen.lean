/- How the parts of layer 5's laws are opened. -/
import Derived.Test.YtfdiomghoheljaaPackPart
import Derived.Test.YtfdiomghoheljaaFields
namespace Go.Proofs.Ytfdiomghoheljaa
open Go.ChangeShapes Go.WideShapes Go.RowKit
set_option linter.unusedVariables false

theorem five {l : List Value} (h : l.length = 5) : ∃ v0 v1 v2 v3 v4, l = [v0, v1, v2, v3, v4] := by
  match l, h with
  | [v0, v1, v2, v3, v4], _ => exact ⟨v0, v1, v2, v3, v4, rfl⟩

end Go.Proofs.Ytfdiomghoheljaa
