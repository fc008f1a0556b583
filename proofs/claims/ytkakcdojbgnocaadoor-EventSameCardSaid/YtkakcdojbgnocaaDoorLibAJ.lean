/- Contracts and plain words that the laws' proofs stand on, put together. -/
import Derived.Test.YtkakcdojbgnocaaDoorLibAH
/- Vectors in plain words: marks in order, how far each actor was heard. No program in it. -/
namespace Go.Proofs.YtkakcdojbgnocaaDoor
open Go.RowKit
set_option linter.unusedVariables false

end Go.Proofs.YtkakcdojbgnocaaDoor

/- Vectors in plain words: which marks may be, and how they are packed. No program in it. -/
namespace Go.Proofs.YtkakcdojbgnocaaDoor
open Go.RowKit
set_option linter.unusedVariables false

/-- Marks, packed. -/
def packV (l : List DotN) : List Int := short l.length ++ l.flatMap bytesD
theorem packs_snoc {L : List DotN} {k : Nat} {y : DotN} (h : L[k]? = some y) : (L.take (k + 1)).flatMap bytesD = (L.take k).flatMap bytesD ++ bytesD y := by
  obtain ⟨hk, rfl⟩ := List.getElem?_eq_some_iff.1 h
  rw [List.take_succ_eq_append_getElem hk, List.flatMap_append]
  simp
theorem bytesD_len {x : DotN} (h : rightD x = true) : (bytesD x).length ≤ 30 := by
  have := putD_len x
  unfold putD at this
  rw [if_pos h] at this
  exact this
theorem packs_len : ∀ {l : List DotN}, (∀ x ∈ l, rightD x = true) → (l.flatMap bytesD).length ≤ 30 * l.length
  | [], _ => Nat.zero_le _
  | x :: t, h => by
    have h1 := bytesD_len (h x (List.mem_cons_self ..))
    have h2 := packs_len (l := t) fun y hy => h y (List.mem_cons_of_mem _ hy)
    rw [List.flatMap_cons, List.length_append, List.length_cons]
    omega
end Go.Proofs.YtkakcdojbgnocaaDoor
