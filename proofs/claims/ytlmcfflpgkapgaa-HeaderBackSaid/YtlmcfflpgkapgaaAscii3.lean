/- Contracts of layer 6: numbers. -/
import Derived.Test.YtlmcfflpgkapgaaAscii2
import Derived.Test.YtlmcfflpgkapgaaShelf
namespace Go.Proofs.Ytlmcfflpgkapgaa
open Go.RowKit
set_option linter.unusedVariables false

end Go.Proofs.Ytlmcfflpgkapgaa
