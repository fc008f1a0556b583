/- Contracts of layer 6: parts; the reference's. -/
import Derived.Test.YtilgcphpieiliaaAscii3
import Derived.Test.YtilgcphpieiliaaOwnAt
namespace Go.Proofs.Ytilgcphpieiliaa
open Go.RowKit
set_option linter.unusedVariables false

theorem infoStr : (Try.prog.info? 9).map (fun i => (i.zero, i.size, i.bytes)) = some (some (.string ⟨#[]⟩), 1, 16) := by kernel_rfl
/-- Strings of these bytes. -/
def strs (p : List (List UInt8)) : List Value := p.map fun l => Value.string (str l)
theorem strs_length (p : List (List UInt8)) : (strs p).length = p.length := by unfold strs; rw [List.length_map]
theorem strs_snoc (p : List (List UInt8)) (x : List UInt8) : strs p ++ [.string (str x)] = strs (p ++ [x]) := by unfold strs; rw [List.map_append]; rfl

/-- Texts in new memory. -/
def GivesStrs (p : List (List UInt8)) (w : World) (en : Ending) (w' : World) : Prop :=
  ∃ a c, en = .returned (.slice a p.length c) ∧ Owned w.heap.size 9 a p.length c (strs p) w' ∧ Below w.heap.size w w'

end Go.Proofs.Ytilgcphpieiliaa
