/- Contracts of layer 8: what a text is. -/
import Derived.Test.YtilgcphpieiliaaHost
namespace Go.Proofs.Ytilgcphpieiliaa
open Go.RowKit
set_option linter.unusedVariables false

theorem str_at {w : World} {a : Option Addr} {P : List (List UInt8)} (h : Reads w a (strs P)) (k : Nat) (hk : k < P.length) : ∃ g off, a = some ⟨g, off, none⟩ ∧ w.cell? ⟨g, off + k, none⟩ = some (.string (str (P.getD k []))) :=
  h k (.string (str (P.getD k []))) (by simp [strs, List.getD, hk])

theorem all_no' {P : List (List UInt8)} {p : List UInt8 → Bool} {k : Nat} (hk : k < P.length) (h : p (P.getD k []) = false) : P.all p = false := by
  rw [Bool.eq_false_iff]
  intro c
  have hm : P.getD k [] ∈ P := by
    simp only [List.getD, List.getElem?_eq_getElem hk, Option.getD_some]
    exact List.getElem_mem _
  rw [List.all_eq_true.1 c _ hm] at h
  cases h

theorem all_yes' {P : List (List UInt8)} {p : List UInt8 → Bool} (h : ∀ j, j < P.length → p (P.getD j []) = true) : P.all p = true := by
  rw [List.all_eq_true]
  intro x hx
  obtain ⟨i, hi, rfl⟩ := List.getElem_of_mem hx
  have := h i hi
  simpa [List.getD, hi] using this

theorem part_le (l : List UInt8) (c : UInt8) (k : Nat) (hk : k < (splitL l c).length) : ((splitL l c).getD k []).length ≤ l.length := by
  have := mem_join_le c (splitL l c) ((splitL l c).getD k []) (by simp only [List.getD, List.getElem?_eq_getElem hk, Option.getD_some]; exact List.getElem_mem _)
  rwa [joinL_all] at this

end Go.Proofs.Ytilgcphpieiliaa
