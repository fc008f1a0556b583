/-
  DERIVED. GIVEN WITH THE SEED: THE CARDS: each row of YtgibhpljlebcdaaDoorRows.lean that lists a variable, with what it lists TIED to the program's text (the seventh form; the later family's looks); each row that meets fmt, with fmt's text TOLD by the authors' own Lean function (tested against real Go, not proved from fmt's source: count such statements apart). THE CARD IS WHAT COUNTS. Prove the row's statement (the work); the ties are given (YtgibhpljlebcdaaDoorTie.lean); close each card by the builder's one call (the guide's Derived/Test/ToyasCard.lean, 'card_holds'). Laid BY PROGRAM, IN A SANDBOX (cutbox-door.mjs). By AI agents, Wed Nov 11 2026. No macro, syntax, notation, axiom, sorry.
-/
import Derived.Test.YtgibhpljlebcdaaDoorRows
import GoSem.ClaimSeven
namespace Go.Proofs.YtgibhpljlebcdaaDoor
namespace Rows

/-- THE TIED CARD OF 'biscottilaw09.SuffixOf'. -/
def suffixOfCard : Claim7 := { stood := { row := suffixOfRow, standIns := [], harness := (true, "eacfecd549cc2f07ddcbd5c46cd5cf8555144f6864f38d8fe075048dc6eafda6"), looks := false }, kinds := [], alts := [], laidByText := true, laidKinds := [.data, .data, .data], laidTests := true, laidLooks := .later }
def SuffixOfCardSaid : Prop := Claim7.holds Tryd.pinned (.plain (OpenSpec.ofChange suffixOfSpec)) suffixOfCard

/-- THE TIED CARD OF 'biscottilaw09.SuffixMatches'. -/
def suffixMatchesCard : Claim7 := { stood := { row := suffixMatchesRow, standIns := [], harness := (true, "eacfecd549cc2f07ddcbd5c46cd5cf8555144f6864f38d8fe075048dc6eafda6"), looks := false }, kinds := [], alts := [], laidByText := true, laidKinds := [.data, .data, .data], laidTests := true, laidLooks := .later }
def SuffixMatchesCardSaid : Prop := Claim7.holds Tryd.pinned (.plain (OpenSpec.ofChange suffixMatchesSpec)) suffixMatchesCard

/-- THE TIED CARD OF 'biscottilaw09.SuffixTurned'. -/
def suffixTurnedCard : Claim7 := { stood := { row := suffixTurnedRow, standIns := [], harness := (true, "eacfecd549cc2f07ddcbd5c46cd5cf8555144f6864f38d8fe075048dc6eafda6"), looks := false }, kinds := [], alts := [], laidByText := true, laidKinds := [.data, .data, .data], laidTests := true, laidLooks := .later }
def SuffixTurnedCardSaid : Prop := Claim7.holds Tryd.pinned (.plain (OpenSpec.ofChange suffixTurnedSpec)) suffixTurnedCard

/-- THE SECOND FORM's CARD OF 'biscottilaw09.SuffixOf'. -/
def suffixOfUptoCard : Claim7 := { stood := { row := suffixOfUptoRow, standIns := [], harness := (true, "eacfecd549cc2f07ddcbd5c46cd5cf8555144f6864f38d8fe075048dc6eafda6"), looks := false }, kinds := [], alts := [], laidByText := true, laidKinds := [.data, .data, .data], laidTests := true, laidLooks := .later }
def SuffixOfUptoCardSaid : Prop := Claim7.holds Tryd.pinned (.plain (OpenSpec.upto suffixOfSpec)) suffixOfUptoCard

/-- THE SECOND FORM's CARD OF 'biscottilaw09.SuffixMatches'. -/
def suffixMatchesUptoCard : Claim7 := { stood := { row := suffixMatchesUptoRow, standIns := [], harness := (true, "eacfecd549cc2f07ddcbd5c46cd5cf8555144f6864f38d8fe075048dc6eafda6"), looks := false }, kinds := [], alts := [], laidByText := true, laidKinds := [.data, .data, .data], laidTests := true, laidLooks := .later }
def SuffixMatchesUptoCardSaid : Prop := Claim7.holds Tryd.pinned (.plain (OpenSpec.upto suffixMatchesSpec)) suffixMatchesUptoCard

/-- THE SECOND FORM's CARD OF 'biscottilaw09.SuffixTurned'. -/
def suffixTurnedUptoCard : Claim7 := { stood := { row := suffixTurnedUptoRow, standIns := [], harness := (true, "eacfecd549cc2f07ddcbd5c46cd5cf8555144f6864f38d8fe075048dc6eafda6"), looks := false }, kinds := [], alts := [], laidByText := true, laidKinds := [.data, .data, .data], laidTests := true, laidLooks := .later }
def SuffixTurnedUptoCardSaid : Prop := Claim7.holds Tryd.pinned (.plain (OpenSpec.upto suffixTurnedSpec)) suffixTurnedUptoCard
end Rows
end Go.Proofs.YtgibhpljlebcdaaDoor
