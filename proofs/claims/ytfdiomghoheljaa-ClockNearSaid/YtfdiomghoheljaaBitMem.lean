/- Contracts of layer 1's functions that make bytes. -/
import Derived.Test.YtfdiomghoheljaaBit
import Derived.Test.YtfdiomghoheljaaInfo
import Derived.Test.YtfdiomghoheljaaBytesPlain
namespace Go.Proofs.Ytfdiomghoheljaa
open Go.RowKit
set_option linter.unusedVariables false

theorem row_cell {w : World} {base : Nat} {e : TypeId} {size n cap g : Nat} {xs : List Value} (h : w.ownsRow base e size (.slice (some ⟨g, 0, none⟩) n cap) n xs) (j : Nat) (hj : j < n * size) (hl : j < xs.length) :
    ∃ v, w.cell? ⟨g, j, none⟩ = some v := by
  rw [h.cellAt j hj]
  exact ⟨_, List.getElem?_eq_getElem hl⟩

/-- The same, with what is not yet written 0. -/
def lowDone (n : Int) (K k : Nat) : List Int := (List.range K).map fun i => if i < k then n / 2 ^ (8 * i) % 256 else 0

/-- Bytes in new memory, and an error's number. -/
def GivesBytes (l : List Int) (err : Int) (w : World) (e : Ending) (w' : World) : Prop :=
  ∃ g cap, e = .returned (.tuple #[.slice (some ⟨g, 0, none⟩) l.length cap, .int .i64 err]) ∧ w'.ownsRow w.heap.size 5 1 (.slice (some ⟨g, 0, none⟩) l.length cap) l.length (l.map (Value.int .u8)) ∧ Below w.heap.size w w'

theorem lowDone_zero (n : Int) (K : Nat) : (List.replicate K (Value.int .u8 0)) = (lowDone n K 0).map (Value.int .u8) := by
  unfold lowDone
  rw [List.map_map]
  apply List.ext_getElem
  · simp
  · intro i h1 h2; simp
theorem lowDone_all (n : Int) (K : Nat) : lowDone n K K = lowBytes n K := by
  unfold lowDone lowBytes
  apply List.map_congr_left
  intro i hi
  rw [if_pos (List.mem_range.mp hi)]
theorem lowDone_set (n : Int) (K k : Nat) : ((lowDone n K k).map (Value.int .u8)).set k (.int .u8 (n / 2 ^ (8 * k) % 256)) = (lowDone n K (k + 1)).map (Value.int .u8) := by
  unfold lowDone
  apply List.ext_getElem
  · simp
  · intro i h1 h2
    simp only [List.getElem_set, List.getElem_map, List.getElem_range]
    by_cases h : k = i
    · subst h; simp
    · by_cases h3 : i < k
      · have : i < k + 1 := by omega
        simp [h, h3, this]
      · have : ¬ i < k + 1 := by omega
        simp [h, h3, this]

end Go.Proofs.Ytfdiomghoheljaa
