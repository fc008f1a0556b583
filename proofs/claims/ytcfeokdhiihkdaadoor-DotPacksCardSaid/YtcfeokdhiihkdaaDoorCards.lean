/-
  DERIVED. GIVEN WITH THE SEED: THE CARDS: each row of YtcfeokdhiihkdaaDoorRows.lean that lists a variable, with what it lists TIED to the program's text (the seventh form; the later family's looks); each row that meets fmt, with fmt's text TOLD by the authors' own Lean function (tested against real Go, not proved from fmt's source: count such statements apart). THE CARD IS WHAT COUNTS. Prove the row's statement (the work); the ties are given (YtcfeokdhiihkdaaDoorTie.lean); close each card by the builder's one call (the guide's Derived/Test/ToyasCard.lean, 'card_holds'). Laid BY PROGRAM, IN A SANDBOX (cutbox-door.mjs). By AI agents, Wed Nov 11 2026. No macro, syntax, notation, axiom, sorry.
-/
import Derived.Test.YtcfeokdhiihkdaaDoorRows
import GoSem.ClaimSeven
namespace Go.Proofs.YtcfeokdhiihkdaaDoor
namespace Rows

/-- THE TIED CARD OF 'biscottilaw16.DotOrders'. -/
def dotOrdersCard : Claim7 := { stood := { row := dotOrdersRow, standIns := [], harness := (true, "f3bd11222bd00e7c66a61708185c6390682bf87835bd31673dc7fdda9ec21414"), looks := false }, kinds := [], alts := [], laidByText := true, laidKinds := [.data, .data, .data], laidTests := true, laidLooks := .later }
def DotOrdersCardSaid : Prop := Claim7.holds Tryd.pinned (.plain (OpenSpec.ofChange dotOrdersSpec)) dotOrdersCard

/-- THE TIED CARD OF 'biscottilaw16.DotPacks'. -/
def dotPacksCard : Claim7 := { stood := { row := dotPacksRow, standIns := [], harness := (true, "f3bd11222bd00e7c66a61708185c6390682bf87835bd31673dc7fdda9ec21414"), looks := false }, kinds := [], alts := [], laidByText := true, laidKinds := [.data, .data, .data], laidTests := true, laidLooks := .later }
def DotPacksCardSaid : Prop := Claim7.holds Tryd.pinned (.plain (OpenSpec.ofChange dotPacksSpec)) dotPacksCard

/-- THE TIED CARD OF 'biscottilaw16.DotSorts'. -/
def dotSortsCard : Claim7 := { stood := { row := dotSortsRow, standIns := [], harness := (true, "f3bd11222bd00e7c66a61708185c6390682bf87835bd31673dc7fdda9ec21414"), looks := false }, kinds := [], alts := [], laidByText := true, laidKinds := [.data, .data, .data], laidTests := true, laidLooks := .later }
def DotSortsCardSaid : Prop := Claim7.holds Tryd.pinned (.plain (OpenSpec.ofChange dotSortsSpec)) dotSortsCard

/-- THE SECOND FORM's CARD OF 'biscottilaw16.DotOrders'. -/
def dotOrdersUptoCard : Claim7 := { stood := { row := dotOrdersUptoRow, standIns := [], harness := (true, "f3bd11222bd00e7c66a61708185c6390682bf87835bd31673dc7fdda9ec21414"), looks := false }, kinds := [], alts := [], laidByText := true, laidKinds := [.data, .data, .data], laidTests := true, laidLooks := .later }
def DotOrdersUptoCardSaid : Prop := Claim7.holds Tryd.pinned (.plain (OpenSpec.upto dotOrdersSpec)) dotOrdersUptoCard

/-- THE SECOND FORM's CARD OF 'biscottilaw16.DotPacks'. -/
def dotPacksUptoCard : Claim7 := { stood := { row := dotPacksUptoRow, standIns := [], harness := (true, "f3bd11222bd00e7c66a61708185c6390682bf87835bd31673dc7fdda9ec21414"), looks := false }, kinds := [], alts := [], laidByText := true, laidKinds := [.data, .data, .data], laidTests := true, laidLooks := .later }
def DotPacksUptoCardSaid : Prop := Claim7.holds Tryd.pinned (.plain (OpenSpec.upto dotPacksSpec)) dotPacksUptoCard

/-- THE SECOND FORM's CARD OF 'biscottilaw16.DotSorts'. -/
def dotSortsUptoCard : Claim7 := { stood := { row := dotSortsUptoRow, standIns := [], harness := (true, "f3bd11222bd00e7c66a61708185c6390682bf87835bd31673dc7fdda9ec21414"), looks := false }, kinds := [], alts := [], laidByText := true, laidKinds := [.data, .data, .data], laidTests := true, laidLooks := .later }
def DotSortsUptoCardSaid : Prop := Claim7.holds Tryd.pinned (.plain (OpenSpec.upto dotSortsSpec)) dotSortsUptoCard
end Rows
end Go.Proofs.YtcfeokdhiihkdaaDoor
