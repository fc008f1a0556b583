/- Contracts of layer 6: numbers. -/
import Derived.Test.YtilgcphpieiliaaAscii2
import Derived.Test.YtilgcphpieiliaaShelf
namespace Go.Proofs.Ytilgcphpieiliaa
open Go.RowKit
set_option linter.unusedVariables false

theorem cutDashC (l : List UInt8) (w : World) : Calls Try.prog 16 #[.string (str l), .string ⟨#[45]⟩] w fun e w' => e = .returned (.tuple #[.string (str (body l)), .bool (signed l)]) ∧ w = w' := by
  refine (Try.strings_CutPrefix (str l) ⟨#[45]⟩ w).mono ?_
  rintro e w' ⟨rfl, rfl⟩
  rw [str_data]
  exact ⟨rfl, rfl⟩

end Go.Proofs.Ytilgcphpieiliaa
