/-
  DERIVED. GIVEN WITH THE SEED: THE CARDS: each row of YtlpehpfbjechpaaDoorRows.lean that lists a variable, with what it lists TIED to the program's text (the seventh form; the later family's looks); each row that meets fmt, with fmt's text TOLD by the authors' own Lean function (tested against real Go, not proved from fmt's source: count such statements apart). THE CARD IS WHAT COUNTS. Prove the row's statement (the work); the ties are given (YtlpehpfbjechpaaDoorTie.lean); close each card by the builder's one call (the guide's Derived/Test/ToyasCard.lean, 'card_holds'). Laid BY PROGRAM, IN A SANDBOX (cutbox-door.mjs). By AI agents, Wed Nov 11 2026. No macro, syntax, notation, axiom, sorry.
-/
import Derived.Test.YtlpehpfbjechpaaDoorRows
import GoSem.ClaimSeven
namespace Go.Proofs.YtlpehpfbjechpaaDoor
namespace Rows

/-- THE TIED CARD OF 'biscottilaw08.HostCanon'. -/
def hostCanonCard : Claim7 := { stood := { row := hostCanonRow, standIns := [], harness := (true, "9295b072231dc1c81604ad2f78ba881ab8f6667df71865b370530cd6034390dd"), looks := false }, kinds := [], alts := [], laidByText := true, laidKinds := [.data, .data, .data], laidTests := true, laidLooks := .later }
def HostCanonCardSaid : Prop := Claim7.holds Tryd.pinned (.plain (OpenSpec.ofChange hostCanonSpec)) hostCanonCard

/-- THE TIED CARD OF 'biscottilaw08.HostMatches'. -/
def hostMatchesCard : Claim7 := { stood := { row := hostMatchesRow, standIns := [], harness := (true, "9295b072231dc1c81604ad2f78ba881ab8f6667df71865b370530cd6034390dd"), looks := false }, kinds := [], alts := [], laidByText := true, laidKinds := [.data, .data, .data], laidTests := true, laidLooks := .later }
def HostMatchesCardSaid : Prop := Claim7.holds Tryd.pinned (.plain (OpenSpec.ofChange hostMatchesSpec)) hostMatchesCard

/-- THE TIED CARD OF 'biscottilaw08.HostOrders'. -/
def hostOrdersCard : Claim7 := { stood := { row := hostOrdersRow, standIns := [], harness := (true, "9295b072231dc1c81604ad2f78ba881ab8f6667df71865b370530cd6034390dd"), looks := false }, kinds := [], alts := [], laidByText := true, laidKinds := [.data, .data, .data], laidTests := true, laidLooks := .later }
def HostOrdersCardSaid : Prop := Claim7.holds Tryd.pinned (.plain (OpenSpec.ofChange hostOrdersSpec)) hostOrdersCard

/-- THE TIED CARD OF 'biscottilaw08.HostLabels'. -/
def hostLabelsCard : Claim7 := { stood := { row := hostLabelsRow, standIns := [], harness := (true, "9295b072231dc1c81604ad2f78ba881ab8f6667df71865b370530cd6034390dd"), looks := false }, kinds := [], alts := [], laidByText := true, laidKinds := [.data, .data, .data], laidTests := true, laidLooks := .later }
def HostLabelsCardSaid : Prop := Claim7.holds Tryd.pinned (.plain (OpenSpec.ofChange hostLabelsSpec)) hostLabelsCard

/-- THE SECOND FORM's CARD OF 'biscottilaw08.HostCanon'. -/
def hostCanonUptoCard : Claim7 := { stood := { row := hostCanonUptoRow, standIns := [], harness := (true, "9295b072231dc1c81604ad2f78ba881ab8f6667df71865b370530cd6034390dd"), looks := false }, kinds := [], alts := [], laidByText := true, laidKinds := [.data, .data, .data], laidTests := true, laidLooks := .later }
def HostCanonUptoCardSaid : Prop := Claim7.holds Tryd.pinned (.plain (OpenSpec.upto hostCanonSpec)) hostCanonUptoCard

/-- THE SECOND FORM's CARD OF 'biscottilaw08.HostMatches'. -/
def hostMatchesUptoCard : Claim7 := { stood := { row := hostMatchesUptoRow, standIns := [], harness := (true, "9295b072231dc1c81604ad2f78ba881ab8f6667df71865b370530cd6034390dd"), looks := false }, kinds := [], alts := [], laidByText := true, laidKinds := [.data, .data, .data], laidTests := true, laidLooks := .later }
def HostMatchesUptoCardSaid : Prop := Claim7.holds Tryd.pinned (.plain (OpenSpec.upto hostMatchesSpec)) hostMatchesUptoCard

/-- THE SECOND FORM's CARD OF 'biscottilaw08.HostOrders'. -/
def hostOrdersUptoCard : Claim7 := { stood := { row := hostOrdersUptoRow, standIns := [], harness := (true, "9295b072231dc1c81604ad2f78ba881ab8f6667df71865b370530cd6034390dd"), looks := false }, kinds := [], alts := [], laidByText := true, laidKinds := [.data, .data, .data], laidTests := true, laidLooks := .later }
def HostOrdersUptoCardSaid : Prop := Claim7.holds Tryd.pinned (.plain (OpenSpec.upto hostOrdersSpec)) hostOrdersUptoCard

/-- THE SECOND FORM's CARD OF 'biscottilaw08.HostLabels'. -/
def hostLabelsUptoCard : Claim7 := { stood := { row := hostLabelsUptoRow, standIns := [], harness := (true, "9295b072231dc1c81604ad2f78ba881ab8f6667df71865b370530cd6034390dd"), looks := false }, kinds := [], alts := [], laidByText := true, laidKinds := [.data, .data, .data], laidTests := true, laidLooks := .later }
def HostLabelsUptoCardSaid : Prop := Claim7.holds Tryd.pinned (.plain (OpenSpec.upto hostLabelsSpec)) hostLabelsUptoCard
end Rows
end Go.Proofs.YtlpehpfbjechpaaDoor
