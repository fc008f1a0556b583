/- What the library's functions that this program calls answer: contracts of the guide's shelf, laid at this program. -/
import Derived.Shelf.Lay
import Derived.Shelf.LaySoft

import Derived.Test.YtlmcfflpgkapgaaProg
namespace Go.Proofs
open Go.Shelf
shelf_tried
end Go.Proofs
