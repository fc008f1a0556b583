/-
  DERIVED. GIVEN WITH THE SEED: THE CARDS: each row of YtgaodaimkojmhaaDoorRows.lean that lists a variable, with what it lists TIED to the program's text (the seventh form; the later family's looks); each row that meets fmt, with fmt's text TOLD by the authors' own Lean function (tested against real Go, not proved from fmt's source: count such statements apart). THE CARD IS WHAT COUNTS. Prove the row's statement (the work); the ties are given (YtgaodaimkojmhaaDoorTie.lean); close each card by the builder's one call (the guide's Derived/Test/ToyasCard.lean, 'card_holds'). Laid BY PROGRAM, IN A SANDBOX (cutbox-door.mjs). By AI agents, Wed Nov 11 2026. No macro, syntax, notation, axiom, sorry.
-/
import Derived.Test.YtgaodaimkojmhaaDoorRows
import GoSem.ClaimSeven
namespace Go.Proofs.YtgaodaimkojmhaaDoor
namespace Rows

/-- THE TIED CARD OF 'biscottilaw10.UriParses'. -/
def uriParsesCard : Claim7 := { stood := { row := uriParsesRow, standIns := [], harness := (true, "8a498dbad924c26fffdea5b722853035883967e741569541e9778da0d528327c"), looks := false }, kinds := [], alts := [], laidByText := true, laidKinds := [.data, .data, .data], laidTests := true, laidLooks := .later }
def UriParsesCardSaid : Prop := Claim7.holds Tryd.pinned (.plain (OpenSpec.ofChange uriParsesSpec)) uriParsesCard

/-- THE TIED CARD OF 'biscottilaw10.UriTexts'. -/
def uriTextsCard : Claim7 := { stood := { row := uriTextsRow, standIns := [], harness := (true, "8a498dbad924c26fffdea5b722853035883967e741569541e9778da0d528327c"), looks := false }, kinds := [], alts := [], laidByText := true, laidKinds := [.data, .data, .data], laidTests := true, laidLooks := .later }
def UriTextsCardSaid : Prop := Claim7.holds Tryd.pinned (.plain (OpenSpec.ofChange uriTextsSpec)) uriTextsCard

/-- THE TIED CARD OF 'biscottilaw10.UriPaths'. -/
def uriPathsCard : Claim7 := { stood := { row := uriPathsRow, standIns := [], harness := (true, "8a498dbad924c26fffdea5b722853035883967e741569541e9778da0d528327c"), looks := false }, kinds := [], alts := [], laidByText := true, laidKinds := [.data, .data, .data], laidTests := true, laidLooks := .later }
def UriPathsCardSaid : Prop := Claim7.holds Tryd.pinned (.plain (OpenSpec.ofChange uriPathsSpec)) uriPathsCard

/-- THE SECOND FORM's CARD OF 'biscottilaw10.UriParses'. -/
def uriParsesUptoCard : Claim7 := { stood := { row := uriParsesUptoRow, standIns := [], harness := (true, "8a498dbad924c26fffdea5b722853035883967e741569541e9778da0d528327c"), looks := false }, kinds := [], alts := [], laidByText := true, laidKinds := [.data, .data, .data], laidTests := true, laidLooks := .later }
def UriParsesUptoCardSaid : Prop := Claim7.holds Tryd.pinned (.plain (OpenSpec.upto uriParsesSpec)) uriParsesUptoCard

/-- THE SECOND FORM's CARD OF 'biscottilaw10.UriTexts'. -/
def uriTextsUptoCard : Claim7 := { stood := { row := uriTextsUptoRow, standIns := [], harness := (true, "8a498dbad924c26fffdea5b722853035883967e741569541e9778da0d528327c"), looks := false }, kinds := [], alts := [], laidByText := true, laidKinds := [.data, .data, .data], laidTests := true, laidLooks := .later }
def UriTextsUptoCardSaid : Prop := Claim7.holds Tryd.pinned (.plain (OpenSpec.upto uriTextsSpec)) uriTextsUptoCard

/-- THE SECOND FORM's CARD OF 'biscottilaw10.UriPaths'. -/
def uriPathsUptoCard : Claim7 := { stood := { row := uriPathsUptoRow, standIns := [], harness := (true, "8a498dbad924c26fffdea5b722853035883967e741569541e9778da0d528327c"), looks := false }, kinds := [], alts := [], laidByText := true, laidKinds := [.data, .data, .data], laidTests := true, laidLooks := .later }
def UriPathsUptoCardSaid : Prop := Claim7.holds Tryd.pinned (.plain (OpenSpec.upto uriPathsSpec)) uriPathsUptoCard
end Rows
end Go.Proofs.YtgaodaimkojmhaaDoor
