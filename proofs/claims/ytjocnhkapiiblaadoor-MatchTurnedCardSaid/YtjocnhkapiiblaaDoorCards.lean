/-
  DERIVED. GIVEN WITH THE SEED: THE CARDS: each row of YtjocnhkapiiblaaDoorRows.lean that lists a variable, with what it lists TIED to the program's text (the seventh form; the later family's looks); each row that meets fmt, with fmt's text TOLD by the authors' own Lean function (tested against real Go, not proved from fmt's source: count such statements apart). THE CARD IS WHAT COUNTS. Prove the row's statement (the work); the ties are given (YtjocnhkapiiblaaDoorTie.lean); close each card by the builder's one call (the guide's Derived/Test/ToyasCard.lean, 'card_holds'). Laid BY PROGRAM, IN A SANDBOX (cutbox-door.mjs). By AI agents, Wed Nov 11 2026. No macro, syntax, notation, axiom, sorry.
-/
import Derived.Test.YtjocnhkapiiblaaDoorRows
import GoSem.ClaimSeven
namespace Go.Proofs.YtjocnhkapiiblaaDoor
namespace Rows

/-- THE TIED CARD OF 'biscottilaw15.MatchOrders'. -/
def matchOrdersCard : Claim7 := { stood := { row := matchOrdersRow, standIns := [], harness := (true, "6e317fbdabdd53d478719a1c25c1fde51fd27e4e58da0416334ab40b62acaef6"), looks := false }, kinds := [], alts := [], laidByText := true, laidKinds := [.data, .data, .data], laidTests := true, laidLooks := .later }
def MatchOrdersCardSaid : Prop := Claim7.holds Tryd.pinned (.plain (OpenSpec.ofChange matchOrdersSpec)) matchOrdersCard

/-- THE TIED CARD OF 'biscottilaw15.MatchSorts'. -/
def matchSortsCard : Claim7 := { stood := { row := matchSortsRow, standIns := [], harness := (true, "6e317fbdabdd53d478719a1c25c1fde51fd27e4e58da0416334ab40b62acaef6"), looks := false }, kinds := [], alts := [], laidByText := true, laidKinds := [.data, .data, .data], laidTests := true, laidLooks := .later }
def MatchSortsCardSaid : Prop := Claim7.holds Tryd.pinned (.plain (OpenSpec.ofChange matchSortsSpec)) matchSortsCard

/-- THE TIED CARD OF 'biscottilaw15.MatchTurned'. -/
def matchTurnedCard : Claim7 := { stood := { row := matchTurnedRow, standIns := [], harness := (true, "6e317fbdabdd53d478719a1c25c1fde51fd27e4e58da0416334ab40b62acaef6"), looks := false }, kinds := [], alts := [], laidByText := true, laidKinds := [.data, .data, .data], laidTests := true, laidLooks := .later }
def MatchTurnedCardSaid : Prop := Claim7.holds Tryd.pinned (.plain (OpenSpec.ofChange matchTurnedSpec)) matchTurnedCard

/-- THE SECOND FORM's CARD OF 'biscottilaw15.MatchOrders'. -/
def matchOrdersUptoCard : Claim7 := { stood := { row := matchOrdersUptoRow, standIns := [], harness := (true, "6e317fbdabdd53d478719a1c25c1fde51fd27e4e58da0416334ab40b62acaef6"), looks := false }, kinds := [], alts := [], laidByText := true, laidKinds := [.data, .data, .data], laidTests := true, laidLooks := .later }
def MatchOrdersUptoCardSaid : Prop := Claim7.holds Tryd.pinned (.plain (OpenSpec.upto matchOrdersSpec)) matchOrdersUptoCard

/-- THE SECOND FORM's CARD OF 'biscottilaw15.MatchSorts'. -/
def matchSortsUptoCard : Claim7 := { stood := { row := matchSortsUptoRow, standIns := [], harness := (true, "6e317fbdabdd53d478719a1c25c1fde51fd27e4e58da0416334ab40b62acaef6"), looks := false }, kinds := [], alts := [], laidByText := true, laidKinds := [.data, .data, .data], laidTests := true, laidLooks := .later }
def MatchSortsUptoCardSaid : Prop := Claim7.holds Tryd.pinned (.plain (OpenSpec.upto matchSortsSpec)) matchSortsUptoCard

/-- THE SECOND FORM's CARD OF 'biscottilaw15.MatchTurned'. -/
def matchTurnedUptoCard : Claim7 := { stood := { row := matchTurnedUptoRow, standIns := [], harness := (true, "6e317fbdabdd53d478719a1c25c1fde51fd27e4e58da0416334ab40b62acaef6"), looks := false }, kinds := [], alts := [], laidByText := true, laidKinds := [.data, .data, .data], laidTests := true, laidLooks := .later }
def MatchTurnedUptoCardSaid : Prop := Claim7.holds Tryd.pinned (.plain (OpenSpec.upto matchTurnedSpec)) matchTurnedUptoCard
end Rows
end Go.Proofs.YtjocnhkapiiblaaDoor
