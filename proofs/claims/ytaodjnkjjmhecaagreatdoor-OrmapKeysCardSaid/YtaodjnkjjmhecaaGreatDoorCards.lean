/-
  DERIVED. GIVEN WITH THE SEED: THE CARDS: each row of YtaodjnkjjmhecaaGreatDoorRows.lean that lists a variable, with what it lists TIED to the program's text (the seventh form; the later family's looks); each row that meets fmt, with fmt's text TOLD by the authors' own Lean function (tested against real Go, not proved from fmt's source: count such statements apart). THE CARD IS WHAT COUNTS. Prove the row's statement (the work); the ties are given (YtaodjnkjjmhecaaGreatDoorTie.lean); close each card by the builder's one call (the guide's Derived/Test/ToyasCard.lean, 'card_holds'). Laid BY PROGRAM, IN A SANDBOX (cutbox-door.mjs). By AI agents, Wed Nov 11 2026. No macro, syntax, notation, axiom, sorry.
-/
import Derived.Test.YtaodjnkjjmhecaaGreatDoorRows
import GoSem.ClaimSeven
namespace Go.Proofs.YtaodjnkjjmhecaaGreatDoor
namespace Rows

/-- THE TIED CARD OF 'biscottilaw21.OrmapPlays'. -/
def ormapPlaysCard : Claim7 := { stood := { row := ormapPlaysRow, standIns := [], harness := (true, "a7d6cd8fdaa2c5300c24a83134f49a23dda1e3ae793544ada0a02ca5b8d70cf8"), looks := false }, kinds := [], alts := [], laidByText := true, laidKinds := [.data, .data, .data], laidTests := true, laidLooks := .later }
def OrmapPlaysCardSaid : Prop := Claim7.holds Tryz.pinned (.plain (OpenSpec.ofChange ormapPlaysSpec)) ormapPlaysCard

/-- THE TIED CARD OF 'biscottilaw21.OrmapKeys'. -/
def ormapKeysCard : Claim7 := { stood := { row := ormapKeysRow, standIns := [], harness := (true, "a7d6cd8fdaa2c5300c24a83134f49a23dda1e3ae793544ada0a02ca5b8d70cf8"), looks := false }, kinds := [], alts := [], laidByText := true, laidKinds := [.data, .data, .data], laidTests := true, laidLooks := .later }
def OrmapKeysCardSaid : Prop := Claim7.holds Tryz.pinned (.plain (OpenSpec.ofChange ormapKeysSpec)) ormapKeysCard

/-- THE TIED CARD OF 'biscottilaw21.OrmapTurned'. -/
def ormapTurnedCard : Claim7 := { stood := { row := ormapTurnedRow, standIns := [], harness := (true, "a7d6cd8fdaa2c5300c24a83134f49a23dda1e3ae793544ada0a02ca5b8d70cf8"), looks := false }, kinds := [], alts := [], laidByText := true, laidKinds := [.data, .data, .data], laidTests := true, laidLooks := .later }
def OrmapTurnedCardSaid : Prop := Claim7.holds Tryz.pinned (.plain (OpenSpec.ofChange ormapTurnedSpec)) ormapTurnedCard

/-- THE TIED CARD OF 'biscottilaw21.OrmapTwice'. -/
def ormapTwiceCard : Claim7 := { stood := { row := ormapTwiceRow, standIns := [], harness := (true, "a7d6cd8fdaa2c5300c24a83134f49a23dda1e3ae793544ada0a02ca5b8d70cf8"), looks := false }, kinds := [], alts := [], laidByText := true, laidKinds := [.data, .data, .data], laidTests := true, laidLooks := .later }
def OrmapTwiceCardSaid : Prop := Claim7.holds Tryz.pinned (.plain (OpenSpec.ofChange ormapTwiceSpec)) ormapTwiceCard

/-- THE TIED CARD OF 'biscottilaw21.OrmapNils'. -/
def ormapNilsCard : Claim7 := { stood := { row := ormapNilsRow, standIns := [], harness := (true, "a7d6cd8fdaa2c5300c24a83134f49a23dda1e3ae793544ada0a02ca5b8d70cf8"), looks := false }, kinds := [], alts := [], laidByText := true, laidKinds := [.data, .data, .data], laidTests := true, laidLooks := .later }
def OrmapNilsCardSaid : Prop := Claim7.holds Tryz.pinned (.plain (OpenSpec.ofChange ormapNilsSpec)) ormapNilsCard

/-- THE TIED CARD OF 'biscottilaw21.OrmapLoads'. -/
def ormapLoadsCard : Claim7 := { stood := { row := ormapLoadsRow, standIns := [], harness := (true, "a7d6cd8fdaa2c5300c24a83134f49a23dda1e3ae793544ada0a02ca5b8d70cf8"), looks := false }, kinds := [], alts := [], laidByText := true, laidKinds := [.data, .data, .data], laidTests := true, laidLooks := .later }
def OrmapLoadsCardSaid : Prop := Claim7.holds Tryz.pinned (.plain (OpenSpec.ofChange ormapLoadsSpec)) ormapLoadsCard

/-- THE TIED CARD OF 'biscottilaw21.OrmapBack'. -/
def ormapBackCard : Claim7 := { stood := { row := ormapBackRow, standIns := [], harness := (true, "a7d6cd8fdaa2c5300c24a83134f49a23dda1e3ae793544ada0a02ca5b8d70cf8"), looks := false }, kinds := [], alts := [], laidByText := true, laidKinds := [.data, .data, .data], laidTests := true, laidLooks := .later }
def OrmapBackCardSaid : Prop := Claim7.holds Tryz.pinned (.plain (OpenSpec.ofChange ormapBackSpec)) ormapBackCard

/-- THE TIED CARD OF 'biscottilaw22.DeltaOf'. -/
def deltaOfCard : Claim7 := { stood := { row := deltaOfRow, standIns := [], harness := (true, "a7d6cd8fdaa2c5300c24a83134f49a23dda1e3ae793544ada0a02ca5b8d70cf8"), looks := false }, kinds := [], alts := [], laidByText := true, laidKinds := [.data, .data, .data], laidTests := true, laidLooks := .later }
def DeltaOfCardSaid : Prop := Claim7.holds Tryz.pinned (.plain (OpenSpec.ofChange deltaOfSpec)) deltaOfCard

/-- THE TIED CARD OF 'biscottilaw22.DeltaMerges'. -/
def deltaMergesCard : Claim7 := { stood := { row := deltaMergesRow, standIns := [], harness := (true, "a7d6cd8fdaa2c5300c24a83134f49a23dda1e3ae793544ada0a02ca5b8d70cf8"), looks := false }, kinds := [], alts := [], laidByText := true, laidKinds := [.data, .data, .data], laidTests := true, laidLooks := .later }
def DeltaMergesCardSaid : Prop := Claim7.holds Tryz.pinned (.plain (OpenSpec.ofChange deltaMergesSpec)) deltaMergesCard

/-- THE TIED CARD OF 'biscottilaw22.DeltaCovers'. -/
def deltaCoversCard : Claim7 := { stood := { row := deltaCoversRow, standIns := [], harness := (true, "a7d6cd8fdaa2c5300c24a83134f49a23dda1e3ae793544ada0a02ca5b8d70cf8"), looks := false }, kinds := [], alts := [], laidByText := true, laidKinds := [.data, .data, .data], laidTests := true, laidLooks := .later }
def DeltaCoversCardSaid : Prop := Claim7.holds Tryz.pinned (.plain (OpenSpec.ofChange deltaCoversSpec)) deltaCoversCard

/-- THE TIED CARD OF 'biscottilaw22.DeltaJoins'. -/
def deltaJoinsCard : Claim7 := { stood := { row := deltaJoinsRow, standIns := [], harness := (true, "a7d6cd8fdaa2c5300c24a83134f49a23dda1e3ae793544ada0a02ca5b8d70cf8"), looks := false }, kinds := [], alts := [], laidByText := true, laidKinds := [.data, .data, .data], laidTests := true, laidLooks := .later }
def DeltaJoinsCardSaid : Prop := Claim7.holds Tryz.pinned (.plain (OpenSpec.ofChange deltaJoinsSpec)) deltaJoinsCard

/-- THE TIED CARD OF 'biscottilaw22.DeltaNils'. -/
def deltaNilsCard : Claim7 := { stood := { row := deltaNilsRow, standIns := [], harness := (true, "a7d6cd8fdaa2c5300c24a83134f49a23dda1e3ae793544ada0a02ca5b8d70cf8"), looks := false }, kinds := [], alts := [], laidByText := true, laidKinds := [.data, .data, .data], laidTests := true, laidLooks := .later }
def DeltaNilsCardSaid : Prop := Claim7.holds Tryz.pinned (.plain (OpenSpec.ofChange deltaNilsSpec)) deltaNilsCard

/-- THE SECOND FORM's CARD OF 'biscottilaw21.OrmapPlays'. -/
def ormapPlaysUptoCard : Claim7 := { stood := { row := ormapPlaysUptoRow, standIns := [], harness := (true, "a7d6cd8fdaa2c5300c24a83134f49a23dda1e3ae793544ada0a02ca5b8d70cf8"), looks := false }, kinds := [], alts := [], laidByText := true, laidKinds := [.data, .data, .data], laidTests := true, laidLooks := .later }
def OrmapPlaysUptoCardSaid : Prop := Claim7.holds Tryz.pinned (.plain (OpenSpec.upto ormapPlaysSpec)) ormapPlaysUptoCard

/-- THE SECOND FORM's CARD OF 'biscottilaw21.OrmapKeys'. -/
def ormapKeysUptoCard : Claim7 := { stood := { row := ormapKeysUptoRow, standIns := [], harness := (true, "a7d6cd8fdaa2c5300c24a83134f49a23dda1e3ae793544ada0a02ca5b8d70cf8"), looks := false }, kinds := [], alts := [], laidByText := true, laidKinds := [.data, .data, .data], laidTests := true, laidLooks := .later }
def OrmapKeysUptoCardSaid : Prop := Claim7.holds Tryz.pinned (.plain (OpenSpec.upto ormapKeysSpec)) ormapKeysUptoCard

/-- THE SECOND FORM's CARD OF 'biscottilaw21.OrmapTurned'. -/
def ormapTurnedUptoCard : Claim7 := { stood := { row := ormapTurnedUptoRow, standIns := [], harness := (true, "a7d6cd8fdaa2c5300c24a83134f49a23dda1e3ae793544ada0a02ca5b8d70cf8"), looks := false }, kinds := [], alts := [], laidByText := true, laidKinds := [.data, .data, .data], laidTests := true, laidLooks := .later }
def OrmapTurnedUptoCardSaid : Prop := Claim7.holds Tryz.pinned (.plain (OpenSpec.upto ormapTurnedSpec)) ormapTurnedUptoCard

/-- THE SECOND FORM's CARD OF 'biscottilaw21.OrmapTwice'. -/
def ormapTwiceUptoCard : Claim7 := { stood := { row := ormapTwiceUptoRow, standIns := [], harness := (true, "a7d6cd8fdaa2c5300c24a83134f49a23dda1e3ae793544ada0a02ca5b8d70cf8"), looks := false }, kinds := [], alts := [], laidByText := true, laidKinds := [.data, .data, .data], laidTests := true, laidLooks := .later }
def OrmapTwiceUptoCardSaid : Prop := Claim7.holds Tryz.pinned (.plain (OpenSpec.upto ormapTwiceSpec)) ormapTwiceUptoCard

/-- THE SECOND FORM's CARD OF 'biscottilaw21.OrmapNils'. -/
def ormapNilsUptoCard : Claim7 := { stood := { row := ormapNilsUptoRow, standIns := [], harness := (true, "a7d6cd8fdaa2c5300c24a83134f49a23dda1e3ae793544ada0a02ca5b8d70cf8"), looks := false }, kinds := [], alts := [], laidByText := true, laidKinds := [.data, .data, .data], laidTests := true, laidLooks := .later }
def OrmapNilsUptoCardSaid : Prop := Claim7.holds Tryz.pinned (.plain (OpenSpec.upto ormapNilsSpec)) ormapNilsUptoCard

/-- THE SECOND FORM's CARD OF 'biscottilaw21.OrmapLoads'. -/
def ormapLoadsUptoCard : Claim7 := { stood := { row := ormapLoadsUptoRow, standIns := [], harness := (true, "a7d6cd8fdaa2c5300c24a83134f49a23dda1e3ae793544ada0a02ca5b8d70cf8"), looks := false }, kinds := [], alts := [], laidByText := true, laidKinds := [.data, .data, .data], laidTests := true, laidLooks := .later }
def OrmapLoadsUptoCardSaid : Prop := Claim7.holds Tryz.pinned (.plain (OpenSpec.upto ormapLoadsSpec)) ormapLoadsUptoCard

/-- THE SECOND FORM's CARD OF 'biscottilaw21.OrmapBack'. -/
def ormapBackUptoCard : Claim7 := { stood := { row := ormapBackUptoRow, standIns := [], harness := (true, "a7d6cd8fdaa2c5300c24a83134f49a23dda1e3ae793544ada0a02ca5b8d70cf8"), looks := false }, kinds := [], alts := [], laidByText := true, laidKinds := [.data, .data, .data], laidTests := true, laidLooks := .later }
def OrmapBackUptoCardSaid : Prop := Claim7.holds Tryz.pinned (.plain (OpenSpec.upto ormapBackSpec)) ormapBackUptoCard

/-- THE SECOND FORM's CARD OF 'biscottilaw22.DeltaOf'. -/
def deltaOfUptoCard : Claim7 := { stood := { row := deltaOfUptoRow, standIns := [], harness := (true, "a7d6cd8fdaa2c5300c24a83134f49a23dda1e3ae793544ada0a02ca5b8d70cf8"), looks := false }, kinds := [], alts := [], laidByText := true, laidKinds := [.data, .data, .data], laidTests := true, laidLooks := .later }
def DeltaOfUptoCardSaid : Prop := Claim7.holds Tryz.pinned (.plain (OpenSpec.upto deltaOfSpec)) deltaOfUptoCard

/-- THE SECOND FORM's CARD OF 'biscottilaw22.DeltaMerges'. -/
def deltaMergesUptoCard : Claim7 := { stood := { row := deltaMergesUptoRow, standIns := [], harness := (true, "a7d6cd8fdaa2c5300c24a83134f49a23dda1e3ae793544ada0a02ca5b8d70cf8"), looks := false }, kinds := [], alts := [], laidByText := true, laidKinds := [.data, .data, .data], laidTests := true, laidLooks := .later }
def DeltaMergesUptoCardSaid : Prop := Claim7.holds Tryz.pinned (.plain (OpenSpec.upto deltaMergesSpec)) deltaMergesUptoCard

/-- THE SECOND FORM's CARD OF 'biscottilaw22.DeltaCovers'. -/
def deltaCoversUptoCard : Claim7 := { stood := { row := deltaCoversUptoRow, standIns := [], harness := (true, "a7d6cd8fdaa2c5300c24a83134f49a23dda1e3ae793544ada0a02ca5b8d70cf8"), looks := false }, kinds := [], alts := [], laidByText := true, laidKinds := [.data, .data, .data], laidTests := true, laidLooks := .later }
def DeltaCoversUptoCardSaid : Prop := Claim7.holds Tryz.pinned (.plain (OpenSpec.upto deltaCoversSpec)) deltaCoversUptoCard

/-- THE SECOND FORM's CARD OF 'biscottilaw22.DeltaJoins'. -/
def deltaJoinsUptoCard : Claim7 := { stood := { row := deltaJoinsUptoRow, standIns := [], harness := (true, "a7d6cd8fdaa2c5300c24a83134f49a23dda1e3ae793544ada0a02ca5b8d70cf8"), looks := false }, kinds := [], alts := [], laidByText := true, laidKinds := [.data, .data, .data], laidTests := true, laidLooks := .later }
def DeltaJoinsUptoCardSaid : Prop := Claim7.holds Tryz.pinned (.plain (OpenSpec.upto deltaJoinsSpec)) deltaJoinsUptoCard

/-- THE SECOND FORM's CARD OF 'biscottilaw22.DeltaNils'. -/
def deltaNilsUptoCard : Claim7 := { stood := { row := deltaNilsUptoRow, standIns := [], harness := (true, "a7d6cd8fdaa2c5300c24a83134f49a23dda1e3ae793544ada0a02ca5b8d70cf8"), looks := false }, kinds := [], alts := [], laidByText := true, laidKinds := [.data, .data, .data], laidTests := true, laidLooks := .later }
def DeltaNilsUptoCardSaid : Prop := Claim7.holds Tryz.pinned (.plain (OpenSpec.upto deltaNilsSpec)) deltaNilsUptoCard
end Rows
end Go.Proofs.YtaodjnkjjmhecaaGreatDoor
