/-
  DERIVED. GIVEN WITH THE SEED: THE CARDS: each row of YtelgaglnmcggkaaGreatDoorRows.lean that lists a variable, with what it lists TIED to the program's text (the seventh form; the later family's looks); each row that meets fmt, with fmt's text TOLD by the authors' own Lean function (tested against real Go, not proved from fmt's source: count such statements apart). THE CARD IS WHAT COUNTS. Prove the row's statement (the work); the ties are given (YtelgaglnmcggkaaGreatDoorTie.lean); close each card by the builder's one call (the guide's Derived/Test/ToyasCard.lean, 'card_holds'). Laid BY PROGRAM, IN A SANDBOX (cutbox-door.mjs). By AI agents, Wed Nov 11 2026. No macro, syntax, notation, axiom, sorry.
-/
import Derived.Test.YtelgaglnmcggkaaGreatDoorRows
import GoSem.ClaimSeven
namespace Go.Proofs.YtelgaglnmcggkaaGreatDoor
namespace Rows

/-- THE TIED CARD OF 'biscottilaw21.OrmapPlays'. -/
def ormapPlaysCard : Claim7 := { stood := { row := ormapPlaysRow, standIns := [], harness := (true, "f873e6486e151d93ebb1e0ef458812bfe71feb4bd248821d6c2221b497844916"), looks := false }, kinds := [], alts := [], laidByText := true, laidKinds := [.data, .data, .data], laidTests := true, laidLooks := .later }
def OrmapPlaysCardSaid : Prop := Claim7.holds Tryz.pinned (.plain (OpenSpec.ofChange ormapPlaysSpec)) ormapPlaysCard

/-- THE TIED CARD OF 'biscottilaw21.OrmapKeys'. -/
def ormapKeysCard : Claim7 := { stood := { row := ormapKeysRow, standIns := [], harness := (true, "f873e6486e151d93ebb1e0ef458812bfe71feb4bd248821d6c2221b497844916"), looks := false }, kinds := [], alts := [], laidByText := true, laidKinds := [.data, .data, .data], laidTests := true, laidLooks := .later }
def OrmapKeysCardSaid : Prop := Claim7.holds Tryz.pinned (.plain (OpenSpec.ofChange ormapKeysSpec)) ormapKeysCard

/-- THE TIED CARD OF 'biscottilaw21.OrmapTurned'. -/
def ormapTurnedCard : Claim7 := { stood := { row := ormapTurnedRow, standIns := [], harness := (true, "f873e6486e151d93ebb1e0ef458812bfe71feb4bd248821d6c2221b497844916"), looks := false }, kinds := [], alts := [], laidByText := true, laidKinds := [.data, .data, .data], laidTests := true, laidLooks := .later }
def OrmapTurnedCardSaid : Prop := Claim7.holds Tryz.pinned (.plain (OpenSpec.ofChange ormapTurnedSpec)) ormapTurnedCard

/-- THE TIED CARD OF 'biscottilaw21.OrmapTwice'. -/
def ormapTwiceCard : Claim7 := { stood := { row := ormapTwiceRow, standIns := [], harness := (true, "f873e6486e151d93ebb1e0ef458812bfe71feb4bd248821d6c2221b497844916"), looks := false }, kinds := [], alts := [], laidByText := true, laidKinds := [.data, .data, .data], laidTests := true, laidLooks := .later }
def OrmapTwiceCardSaid : Prop := Claim7.holds Tryz.pinned (.plain (OpenSpec.ofChange ormapTwiceSpec)) ormapTwiceCard

/-- THE TIED CARD OF 'biscottilaw21.OrmapFull'. -/
def ormapFullCard : Claim7 := { stood := { row := ormapFullRow, standIns := [], harness := (true, "f873e6486e151d93ebb1e0ef458812bfe71feb4bd248821d6c2221b497844916"), looks := false }, kinds := [], alts := [], laidByText := true, laidKinds := [.data, .data, .data], laidTests := true, laidLooks := .later }
def OrmapFullCardSaid : Prop := Claim7.holds Tryz.pinned (.plain (OpenSpec.ofChange ormapFullSpec)) ormapFullCard

/-- THE TIED CARD OF 'biscottilaw21.OrmapNils'. -/
def ormapNilsCard : Claim7 := { stood := { row := ormapNilsRow, standIns := [], harness := (true, "f873e6486e151d93ebb1e0ef458812bfe71feb4bd248821d6c2221b497844916"), looks := false }, kinds := [], alts := [], laidByText := true, laidKinds := [.data, .data, .data], laidTests := true, laidLooks := .later }
def OrmapNilsCardSaid : Prop := Claim7.holds Tryz.pinned (.plain (OpenSpec.ofChange ormapNilsSpec)) ormapNilsCard

/-- THE TIED CARD OF 'biscottilaw21.OrmapLoads'. -/
def ormapLoadsCard : Claim7 := { stood := { row := ormapLoadsRow, standIns := [], harness := (true, "f873e6486e151d93ebb1e0ef458812bfe71feb4bd248821d6c2221b497844916"), looks := false }, kinds := [], alts := [], laidByText := true, laidKinds := [.data, .data, .data], laidTests := true, laidLooks := .later }
def OrmapLoadsCardSaid : Prop := Claim7.holds Tryz.pinned (.plain (OpenSpec.ofChange ormapLoadsSpec)) ormapLoadsCard

/-- THE TIED CARD OF 'biscottilaw21.OrmapBack'. -/
def ormapBackCard : Claim7 := { stood := { row := ormapBackRow, standIns := [], harness := (true, "f873e6486e151d93ebb1e0ef458812bfe71feb4bd248821d6c2221b497844916"), looks := false }, kinds := [], alts := [], laidByText := true, laidKinds := [.data, .data, .data], laidTests := true, laidLooks := .later }
def OrmapBackCardSaid : Prop := Claim7.holds Tryz.pinned (.plain (OpenSpec.ofChange ormapBackSpec)) ormapBackCard

/-- THE SECOND FORM's CARD OF 'biscottilaw21.OrmapPlays'. -/
def ormapPlaysUptoCard : Claim7 := { stood := { row := ormapPlaysUptoRow, standIns := [], harness := (true, "f873e6486e151d93ebb1e0ef458812bfe71feb4bd248821d6c2221b497844916"), looks := false }, kinds := [], alts := [], laidByText := true, laidKinds := [.data, .data, .data], laidTests := true, laidLooks := .later }
def OrmapPlaysUptoCardSaid : Prop := Claim7.holds Tryz.pinned (.plain (OpenSpec.upto ormapPlaysSpec)) ormapPlaysUptoCard

/-- THE SECOND FORM's CARD OF 'biscottilaw21.OrmapKeys'. -/
def ormapKeysUptoCard : Claim7 := { stood := { row := ormapKeysUptoRow, standIns := [], harness := (true, "f873e6486e151d93ebb1e0ef458812bfe71feb4bd248821d6c2221b497844916"), looks := false }, kinds := [], alts := [], laidByText := true, laidKinds := [.data, .data, .data], laidTests := true, laidLooks := .later }
def OrmapKeysUptoCardSaid : Prop := Claim7.holds Tryz.pinned (.plain (OpenSpec.upto ormapKeysSpec)) ormapKeysUptoCard

/-- THE SECOND FORM's CARD OF 'biscottilaw21.OrmapTurned'. -/
def ormapTurnedUptoCard : Claim7 := { stood := { row := ormapTurnedUptoRow, standIns := [], harness := (true, "f873e6486e151d93ebb1e0ef458812bfe71feb4bd248821d6c2221b497844916"), looks := false }, kinds := [], alts := [], laidByText := true, laidKinds := [.data, .data, .data], laidTests := true, laidLooks := .later }
def OrmapTurnedUptoCardSaid : Prop := Claim7.holds Tryz.pinned (.plain (OpenSpec.upto ormapTurnedSpec)) ormapTurnedUptoCard

/-- THE SECOND FORM's CARD OF 'biscottilaw21.OrmapTwice'. -/
def ormapTwiceUptoCard : Claim7 := { stood := { row := ormapTwiceUptoRow, standIns := [], harness := (true, "f873e6486e151d93ebb1e0ef458812bfe71feb4bd248821d6c2221b497844916"), looks := false }, kinds := [], alts := [], laidByText := true, laidKinds := [.data, .data, .data], laidTests := true, laidLooks := .later }
def OrmapTwiceUptoCardSaid : Prop := Claim7.holds Tryz.pinned (.plain (OpenSpec.upto ormapTwiceSpec)) ormapTwiceUptoCard

/-- THE SECOND FORM's CARD OF 'biscottilaw21.OrmapFull'. -/
def ormapFullUptoCard : Claim7 := { stood := { row := ormapFullUptoRow, standIns := [], harness := (true, "f873e6486e151d93ebb1e0ef458812bfe71feb4bd248821d6c2221b497844916"), looks := false }, kinds := [], alts := [], laidByText := true, laidKinds := [.data, .data, .data], laidTests := true, laidLooks := .later }
def OrmapFullUptoCardSaid : Prop := Claim7.holds Tryz.pinned (.plain (OpenSpec.upto ormapFullSpec)) ormapFullUptoCard

/-- THE SECOND FORM's CARD OF 'biscottilaw21.OrmapNils'. -/
def ormapNilsUptoCard : Claim7 := { stood := { row := ormapNilsUptoRow, standIns := [], harness := (true, "f873e6486e151d93ebb1e0ef458812bfe71feb4bd248821d6c2221b497844916"), looks := false }, kinds := [], alts := [], laidByText := true, laidKinds := [.data, .data, .data], laidTests := true, laidLooks := .later }
def OrmapNilsUptoCardSaid : Prop := Claim7.holds Tryz.pinned (.plain (OpenSpec.upto ormapNilsSpec)) ormapNilsUptoCard

/-- THE SECOND FORM's CARD OF 'biscottilaw21.OrmapLoads'. -/
def ormapLoadsUptoCard : Claim7 := { stood := { row := ormapLoadsUptoRow, standIns := [], harness := (true, "f873e6486e151d93ebb1e0ef458812bfe71feb4bd248821d6c2221b497844916"), looks := false }, kinds := [], alts := [], laidByText := true, laidKinds := [.data, .data, .data], laidTests := true, laidLooks := .later }
def OrmapLoadsUptoCardSaid : Prop := Claim7.holds Tryz.pinned (.plain (OpenSpec.upto ormapLoadsSpec)) ormapLoadsUptoCard

/-- THE SECOND FORM's CARD OF 'biscottilaw21.OrmapBack'. -/
def ormapBackUptoCard : Claim7 := { stood := { row := ormapBackUptoRow, standIns := [], harness := (true, "f873e6486e151d93ebb1e0ef458812bfe71feb4bd248821d6c2221b497844916"), looks := false }, kinds := [], alts := [], laidByText := true, laidKinds := [.data, .data, .data], laidTests := true, laidLooks := .later }
def OrmapBackUptoCardSaid : Prop := Claim7.holds Tryz.pinned (.plain (OpenSpec.upto ormapBackSpec)) ormapBackUptoCard
end Rows
end Go.Proofs.YtelgaglnmcggkaaGreatDoor
