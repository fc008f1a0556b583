/- Contracts and plain words that the laws' proofs stand on. -/
import Derived.Test.YtaodjnkjjmhecaaGreatDoorLibAT
namespace Go.Proofs.YtaodjnkjjmhecaaGreatDoor
open Go.ChangeShapes Go.WideShapes Go.ChangeAt Go.RowKit
set_option linter.unusedVariables false
set_option maxRecDepth 100000 in
theorem open_marks {H : Type} {enc : TypeId × Value → H} {w : World} {r : Reach} {b0 : Nat} {v : Value} {d : DataW H} {p : List MemPlace} (hv : Value.okWide Tryz.prog w r b0 27 v) (h : DataW.Trod enc Tryz.prog w 0 (fun _ => true) true 27 v d p) :
    ∃ a len cap, ∃ Q : List DotN, v = .slice a len cap ∧ RowOf encD 3 w a len cap Q ∧ ∀ x ∈ Q, FitD x :=
  open_rows_of encD FitD 3 4 [.num .i64, .num .i64, .num .i64] Tryz.underlying27 (by kernel_rfl) (by decide) (by kernel_rfl) (fun cs h => leaves_dot h) hv h
end Go.Proofs.YtaodjnkjjmhecaaGreatDoor
