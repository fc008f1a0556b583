/- Contracts and plain words that the laws' proofs stand on. -/
import Derived.Test.YtaodjnkjjmhecaaGreatDoorLibAO
namespace Go.Proofs.YtaodjnkjjmhecaaGreatDoor
open Go.RowKit
set_option linter.unusedVariables false
theorem chkF_zero : ∀ (L : List DotN) (pr : Option DotN), OrdV L → (∀ d ∈ L, rightD d = true) → (∀ z, pr = some z → ∀ d ∈ L, aheadD z d = true) → chkF pr L = 0
  | [], _, _, _, _ => rfl
  | d :: t, pr, hs, hr, hp => by
    obtain ⟨h1, h2⟩ := List.pairwise_cons.1 hs
    unfold chkF
    rw [if_neg (by rw [hr d (List.mem_cons_self ..)]; exact Bool.noConfusion), if_neg (fun c => ?_)]
    · exact chkF_zero t _ h2 (fun y hy => hr y (List.mem_cons_of_mem _ hy)) fun z hz y hy => by cases hz; exact h1 y hy
    · cases pr with
      | none => cases c
      | some z =>
        rw [Option.map_some, hp z rfl d (List.mem_cons_self ..)] at c
        cases c
end Go.Proofs.YtaodjnkjjmhecaaGreatDoor
