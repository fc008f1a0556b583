/- Contracts and plain words that the laws' proofs stand on, put together. -/
import Derived.Test.YtelgaglnmcggkaaGreatDoorRows
import Derived.Test.YtelgaglnmcggkaaGreatDoorLibAA
import Derived.ProofKit
import Derived.OpenShut
import Derived.BigQuiet
import Derived.Deep.QuietTactic
import Derived.BigRegion
/- Contracts of the plain functions of layer 1 and of its reference. -/
namespace Go.Proofs.YtelgaglnmcggkaaGreatDoor
open Go.RowKit
set_option linter.unusedVariables false

theorem foldI_le (n : Int) (h0 : -9223372036854775808 ≤ n) (h1 : n ≤ 9223372036854775807) : 0 ≤ foldI n ∧ foldI n ≤ 18446744073709551615 := by unfold foldI; split <;> omega
theorem unfoldI_le (n : Int) (h0 : 0 ≤ n) (h1 : n ≤ 18446744073709551615) : -9223372036854775808 ≤ unfoldI n ∧ unfoldI n ≤ 9223372036854775807 := by unfold unfoldI; split <;> omega
theorem unfold_fold (n : Int) : unfoldI (foldI n) = n := by unfold unfoldI foldI; split <;> split <;> omega
theorem fold_unfold (n : Int) (h : 0 ≤ n) : foldI (unfoldI n) = n := by unfold unfoldI foldI; split <;> split <;> omega

end Go.Proofs.YtelgaglnmcggkaaGreatDoor

/- Contracts of layer 1's functions that make bytes. -/
namespace Go.Proofs.YtelgaglnmcggkaaGreatDoor
open Go.RowKit
set_option linter.unusedVariables false

end Go.Proofs.YtelgaglnmcggkaaGreatDoor

/- Contracts of layer 1's functions over slices of bytes. -/
namespace Go.Proofs.YtelgaglnmcggkaaGreatDoor
open Go.RowKit
set_option linter.unusedVariables false

end Go.Proofs.YtelgaglnmcggkaaGreatDoor

/- Contracts of the functions that make rows of bytes by append, or turn them round. -/
namespace Go.Proofs.YtelgaglnmcggkaaGreatDoor
open Go.RowKit
set_option linter.unusedVariables false

/-- A list, its first i and its last i turned round. -/
def turned (l : List Int) (i : Nat) : List Int :=
  (List.range l.length).map fun p => if p < i ∨ l.length - i ≤ p then l.getD (l.length - 1 - p) 0 else l.getD p 0
theorem turned_length (l : List Int) (i : Nat) : (turned l i).length = l.length := by simp [turned]
theorem turned_zero (l : List Int) : turned l 0 = l := by
  apply List.ext_getElem
  · simp [turned]
  · intro p h1 h2
    have : ¬ l.length ≤ p := by omega
    simp [turned, h2, this]
theorem turned_all (l : List Int) (i : Nat) (h : l.length ≤ 2 * i + 1) : turned l i = l.reverse := by
  apply List.ext_getElem
  · simp [turned]
  · intro p h1 h2
    have hp : p < l.length := by simpa using h2
    rw [List.getElem_reverse]
    simp only [turned, List.getElem_map, List.getElem_range]
    have e1 : l.length - 1 - p < l.length := by omega
    by_cases c : p < i ∨ l.length - i ≤ p
    · rw [if_pos c, getD_of_lt _ _ e1]
    · rw [if_neg c, getD_of_lt _ _ hp]
      have : l.length - 1 - p = p := by omega
      simp [this]
theorem turned_step (l : List Int) (i j : Nat) (hij : i + j + 1 = l.length) (h : i < j) :
    ((turned l i).set i (l.getD j 0)).set j (l.getD i 0) = turned l (i + 1) := by
  apply List.ext_getElem
  · simp [turned]
  · intro p h1 h2
    have hp : p < l.length := by simpa [turned] using h2
    simp only [List.getElem_set, turned, List.getElem_map, List.getElem_range]
    by_cases c1 : j = p
    · subst c1
      have e : l.length - 1 - j = i := by omega
      have c : j < i + 1 ∨ l.length - (i + 1) ≤ j := by omega
      rw [if_pos rfl, if_pos c, e]
    · by_cases c2 : i = p
      · subst c2
        have e : l.length - 1 - i = j := by omega
        simp [c1, e]
      · have ec : (p < i ∨ l.length - i ≤ p) = (p < i + 1 ∨ l.length - (i + 1) ≤ p) := by
          apply propext; omega
        simp only [c1, c2, if_false, ec]
theorem turned_mid (l : List Int) (i p : Nat) (h1 : i ≤ p) (h2 : p < l.length - i) : (turned l i)[p]? = some (l.getD p 0) := by
  have hp : p < (turned l i).length := by rw [turned_length]; omega
  rw [List.getElem?_eq_getElem hp]
  have c : ¬ (p < i ∨ l.length - i ≤ p) := by omega
  simp only [turned, List.getElem_map, List.getElem_range, if_neg c]

end Go.Proofs.YtelgaglnmcggkaaGreatDoor
