/- Contracts and plain words that the laws' proofs stand on. -/
import Derived.Test.YtaodjnkjjmhecaaGreatDoorLibAU
namespace Go.Proofs.YtaodjnkjjmhecaaGreatDoor
open Go.RowKit
set_option linter.unusedVariables false
theorem insR_in {l : List EvR} {r x : EvR} (h : x ∈ insR l r) : x = r ∨ x ∈ l := by
  unfold insR at h
  rcases List.mem_append.1 h with h | h
  · exact .inr (List.mem_of_mem_take h)
  · rcases List.mem_cons.1 h with h | h
    · exact .inl h
    · exact .inr (List.mem_of_mem_drop h)
theorem apply_in {m : MapR} {r x : EvR} (h : x ∈ (applyR m r).1.kept) : x = r ∨ x ∈ m.kept := by
  unfold applyR at h
  repeat' split at h
  · exact .inr h
  · exact .inr h
  · exact .inr h
  · exact .inr h
  · exact insR_in h
theorem fold_in {L : List EvR} : ∀ x ∈ (foldR L).kept, x ∈ L := by
  have H : ∀ (L : List EvR) (m : MapR), ∀ x ∈ (L.foldl (fun m r => (applyR m r).1) m).kept, x ∈ L ∨ x ∈ m.kept := by
    intro L
    induction L with
    | nil => exact fun m x h => .inr h
    | cons r t ih =>
      intro m x h
      rcases ih _ x h with h | h
      · exact .inl (List.mem_cons_of_mem _ h)
      · rcases apply_in h with rfl | h
        · exact .inl (List.mem_cons_self ..)
        · exact .inr h
  intro x h
  rcases H L _ x h with h | h
  · exact h
  · cases h
theorem run_kept_le (l : List EventN) : ∀ m : MapN, (runM m l).kept.length ≤ m.kept.length + l.length := by
  induction l with
  | nil => exact fun m => Nat.le_refl _
  | cons e t ih =>
    intro m
    have h1 := ih (applyM m e).1
    have h2 := apply_len (m := m) e
    rw [List.length_cons]
    show (runM (applyM m e).1 t).kept.length ≤ _
    omega
end Go.Proofs.YtaodjnkjjmhecaaGreatDoor
