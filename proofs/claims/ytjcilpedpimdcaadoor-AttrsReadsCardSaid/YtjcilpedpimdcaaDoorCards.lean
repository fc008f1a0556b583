/-
  DERIVED. GIVEN WITH THE SEED: THE CARDS: each row of YtjcilpedpimdcaaDoorRows.lean that lists a variable, with what it lists TIED to the program's text (the seventh form; the later family's looks); each row that meets fmt, with fmt's text TOLD by the authors' own Lean function (tested against real Go, not proved from fmt's source: count such statements apart). THE CARD IS WHAT COUNTS. Prove the row's statement (the work); the ties are given (YtjcilpedpimdcaaDoorTie.lean); close each card by the builder's one call (the guide's Derived/Test/ToyasCard.lean, 'card_holds'). Laid BY PROGRAM, IN A SANDBOX (cutbox-door.mjs). By AI agents, Wed Nov 11 2026. No macro, syntax, notation, axiom, sorry.
-/
import Derived.Test.YtjcilpedpimdcaaDoorRows
import GoSem.ClaimSeven
namespace Go.Proofs.YtjcilpedpimdcaaDoor
namespace Rows

/-- THE TIED CARD OF 'biscottilaw13.AttrsReads'. -/
def attrsReadsCard : Claim7 := { stood := { row := attrsReadsRow, standIns := [], harness := (true, "232574a90cd58b4f5251a691b26473c8dcd523b663e26d028ec5050e6abe117a"), looks := false }, kinds := [], alts := [], laidByText := true, laidKinds := [.data, .data], laidTests := true, laidLooks := .later }
def AttrsReadsCardSaid : Prop := Claim7.holds Tryd.pinned (.plain (OpenSpec.ofChange attrsReadsSpec)) attrsReadsCard

/-- THE TIED CARD OF 'biscottilaw13.AttrsExpire'. -/
def attrsExpireCard : Claim7 := { stood := { row := attrsExpireRow, standIns := [], harness := (true, "232574a90cd58b4f5251a691b26473c8dcd523b663e26d028ec5050e6abe117a"), looks := false }, kinds := [], alts := [], laidByText := true, laidKinds := [.data, .data], laidTests := true, laidLooks := .later }
def AttrsExpireCardSaid : Prop := Claim7.holds Tryd.pinned (.plain (OpenSpec.ofChange attrsExpireSpec)) attrsExpireCard

/-- THE TIED CARD OF 'biscottilaw13.AttrsLast'. -/
def attrsLastCard : Claim7 := { stood := { row := attrsLastRow, standIns := [], harness := (true, "232574a90cd58b4f5251a691b26473c8dcd523b663e26d028ec5050e6abe117a"), looks := false }, kinds := [], alts := [], laidByText := true, laidKinds := [.data, .data], laidTests := true, laidLooks := .later }
def AttrsLastCardSaid : Prop := Claim7.holds Tryd.pinned (.plain (OpenSpec.ofChange attrsLastSpec)) attrsLastCard

/-- THE TIED CARD OF 'biscottilaw13.AttrsLetters'. -/
def attrsLettersCard : Claim7 := { stood := { row := attrsLettersRow, standIns := [], harness := (true, "232574a90cd58b4f5251a691b26473c8dcd523b663e26d028ec5050e6abe117a"), looks := false }, kinds := [], alts := [], laidByText := true, laidKinds := [.data, .data], laidTests := true, laidLooks := .later }
def AttrsLettersCardSaid : Prop := Claim7.holds Tryd.pinned (.plain (OpenSpec.ofChange attrsLettersSpec)) attrsLettersCard

/-- THE SECOND FORM's CARD OF 'biscottilaw13.AttrsReads'. -/
def attrsReadsUptoCard : Claim7 := { stood := { row := attrsReadsUptoRow, standIns := [], harness := (true, "232574a90cd58b4f5251a691b26473c8dcd523b663e26d028ec5050e6abe117a"), looks := false }, kinds := [], alts := [], laidByText := true, laidKinds := [.data, .data], laidTests := true, laidLooks := .later }
def AttrsReadsUptoCardSaid : Prop := Claim7.holds Tryd.pinned (.plain (OpenSpec.upto attrsReadsSpec)) attrsReadsUptoCard

/-- THE SECOND FORM's CARD OF 'biscottilaw13.AttrsExpire'. -/
def attrsExpireUptoCard : Claim7 := { stood := { row := attrsExpireUptoRow, standIns := [], harness := (true, "232574a90cd58b4f5251a691b26473c8dcd523b663e26d028ec5050e6abe117a"), looks := false }, kinds := [], alts := [], laidByText := true, laidKinds := [.data, .data], laidTests := true, laidLooks := .later }
def AttrsExpireUptoCardSaid : Prop := Claim7.holds Tryd.pinned (.plain (OpenSpec.upto attrsExpireSpec)) attrsExpireUptoCard

/-- THE SECOND FORM's CARD OF 'biscottilaw13.AttrsLast'. -/
def attrsLastUptoCard : Claim7 := { stood := { row := attrsLastUptoRow, standIns := [], harness := (true, "232574a90cd58b4f5251a691b26473c8dcd523b663e26d028ec5050e6abe117a"), looks := false }, kinds := [], alts := [], laidByText := true, laidKinds := [.data, .data], laidTests := true, laidLooks := .later }
def AttrsLastUptoCardSaid : Prop := Claim7.holds Tryd.pinned (.plain (OpenSpec.upto attrsLastSpec)) attrsLastUptoCard

/-- THE SECOND FORM's CARD OF 'biscottilaw13.AttrsLetters'. -/
def attrsLettersUptoCard : Claim7 := { stood := { row := attrsLettersUptoRow, standIns := [], harness := (true, "232574a90cd58b4f5251a691b26473c8dcd523b663e26d028ec5050e6abe117a"), looks := false }, kinds := [], alts := [], laidByText := true, laidKinds := [.data, .data], laidTests := true, laidLooks := .later }
def AttrsLettersUptoCardSaid : Prop := Claim7.holds Tryd.pinned (.plain (OpenSpec.upto attrsLettersSpec)) attrsLettersUptoCard
end Rows
end Go.Proofs.YtjcilpedpimdcaaDoor
