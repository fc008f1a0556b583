/- The reference's numbers. -/
import Derived.Test.YtlmcfflpgkapgaaAsciiRef2
namespace Go.Proofs.Ytlmcfflpgkapgaa
open Go.RowKit
set_option linter.unusedVariables false

theorem getD_drop (l : List UInt8) (F j : Nat) : (l.drop F).getD j 0 = l.getD (F + j) 0 := by simp [List.getD]

end Go.Proofs.Ytlmcfflpgkapgaa
