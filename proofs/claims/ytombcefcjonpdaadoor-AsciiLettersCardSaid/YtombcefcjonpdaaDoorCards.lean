/-
  DERIVED. GIVEN WITH THE SEED: THE CARDS: each row of YtombcefcjonpdaaDoorRows.lean that lists a variable, with what it lists TIED to the program's text (the seventh form; the later family's looks); each row that meets fmt, with fmt's text TOLD by the authors' own Lean function (tested against real Go, not proved from fmt's source: count such statements apart). THE CARD IS WHAT COUNTS. Prove the row's statement (the work); the ties are given (YtombcefcjonpdaaDoorTie.lean); close each card by the builder's one call (the guide's Derived/Test/ToyasCard.lean, 'card_holds'). Laid BY PROGRAM, IN A SANDBOX (cutbox-door.mjs). By AI agents, Wed Nov 11 2026. No macro, syntax, notation, axiom, sorry.
-/
import Derived.Test.YtombcefcjonpdaaDoorRows
import GoSem.ClaimSeven
namespace Go.Proofs.YtombcefcjonpdaaDoor
namespace Rows

/-- THE TIED CARD OF 'biscottilaw06.AsciiLetters'. -/
def asciiLettersCard : Claim7 := { stood := { row := asciiLettersRow, standIns := [], harness := (true, "1641d64e953af3dd4a111f2d614f945119a682606c6fb9a0d8ef4121189b18cc"), looks := false }, kinds := [], alts := [], laidByText := true, laidKinds := [.data, .data, .data], laidTests := true, laidLooks := .later }
def AsciiLettersCardSaid : Prop := Claim7.holds Tryd.pinned (.plain (OpenSpec.ofChange asciiLettersSpec)) asciiLettersCard

/-- THE TIED CARD OF 'biscottilaw06.AsciiParts'. -/
def asciiPartsCard : Claim7 := { stood := { row := asciiPartsRow, standIns := [], harness := (true, "1641d64e953af3dd4a111f2d614f945119a682606c6fb9a0d8ef4121189b18cc"), looks := false }, kinds := [], alts := [], laidByText := true, laidKinds := [.data, .data, .data], laidTests := true, laidLooks := .later }
def AsciiPartsCardSaid : Prop := Claim7.holds Tryd.pinned (.plain (OpenSpec.ofChange asciiPartsSpec)) asciiPartsCard

/-- THE TIED CARD OF 'biscottilaw06.AsciiNumbers'. -/
def asciiNumbersCard : Claim7 := { stood := { row := asciiNumbersRow, standIns := [], harness := (true, "1641d64e953af3dd4a111f2d614f945119a682606c6fb9a0d8ef4121189b18cc"), looks := false }, kinds := [], alts := [], laidByText := true, laidKinds := [.data, .data, .data], laidTests := true, laidLooks := .later }
def AsciiNumbersCardSaid : Prop := Claim7.holds Tryd.pinned (.plain (OpenSpec.ofChange asciiNumbersSpec)) asciiNumbersCard

/-- THE TIED CARD OF 'biscottilaw06.AsciiTexts'. -/
def asciiTextsCard : Claim7 := { stood := { row := asciiTextsRow, standIns := [], harness := (true, "1641d64e953af3dd4a111f2d614f945119a682606c6fb9a0d8ef4121189b18cc"), looks := false }, kinds := [], alts := [], laidByText := true, laidKinds := [.data, .data, .data], laidTests := true, laidLooks := .later }
def AsciiTextsCardSaid : Prop := Claim7.holds Tryd.pinned (.plain (OpenSpec.ofChange asciiTextsSpec)) asciiTextsCard

/-- THE SECOND FORM's CARD OF 'biscottilaw06.AsciiLetters'. -/
def asciiLettersUptoCard : Claim7 := { stood := { row := asciiLettersUptoRow, standIns := [], harness := (true, "1641d64e953af3dd4a111f2d614f945119a682606c6fb9a0d8ef4121189b18cc"), looks := false }, kinds := [], alts := [], laidByText := true, laidKinds := [.data, .data, .data], laidTests := true, laidLooks := .later }
def AsciiLettersUptoCardSaid : Prop := Claim7.holds Tryd.pinned (.plain (OpenSpec.upto asciiLettersSpec)) asciiLettersUptoCard

/-- THE SECOND FORM's CARD OF 'biscottilaw06.AsciiParts'. -/
def asciiPartsUptoCard : Claim7 := { stood := { row := asciiPartsUptoRow, standIns := [], harness := (true, "1641d64e953af3dd4a111f2d614f945119a682606c6fb9a0d8ef4121189b18cc"), looks := false }, kinds := [], alts := [], laidByText := true, laidKinds := [.data, .data, .data], laidTests := true, laidLooks := .later }
def AsciiPartsUptoCardSaid : Prop := Claim7.holds Tryd.pinned (.plain (OpenSpec.upto asciiPartsSpec)) asciiPartsUptoCard

/-- THE SECOND FORM's CARD OF 'biscottilaw06.AsciiNumbers'. -/
def asciiNumbersUptoCard : Claim7 := { stood := { row := asciiNumbersUptoRow, standIns := [], harness := (true, "1641d64e953af3dd4a111f2d614f945119a682606c6fb9a0d8ef4121189b18cc"), looks := false }, kinds := [], alts := [], laidByText := true, laidKinds := [.data, .data, .data], laidTests := true, laidLooks := .later }
def AsciiNumbersUptoCardSaid : Prop := Claim7.holds Tryd.pinned (.plain (OpenSpec.upto asciiNumbersSpec)) asciiNumbersUptoCard

/-- THE SECOND FORM's CARD OF 'biscottilaw06.AsciiTexts'. -/
def asciiTextsUptoCard : Claim7 := { stood := { row := asciiTextsUptoRow, standIns := [], harness := (true, "1641d64e953af3dd4a111f2d614f945119a682606c6fb9a0d8ef4121189b18cc"), looks := false }, kinds := [], alts := [], laidByText := true, laidKinds := [.data, .data, .data], laidTests := true, laidLooks := .later }
def AsciiTextsUptoCardSaid : Prop := Claim7.holds Tryd.pinned (.plain (OpenSpec.upto asciiTextsSpec)) asciiTextsUptoCard
end Rows
end Go.Proofs.YtombcefcjonpdaaDoor
