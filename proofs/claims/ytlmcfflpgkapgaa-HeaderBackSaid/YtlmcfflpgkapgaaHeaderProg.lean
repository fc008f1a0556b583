/- Contracts of layer 12: Parse, Find, Print. -/
import Derived.Test.YtlmcfflpgkapgaaHeadPrint
import Derived.Test.YtlmcfflpgkapgaaHeadFind
namespace Go.Proofs.Ytlmcfflpgkapgaa
end Go.Proofs.Ytlmcfflpgkapgaa
