/-
  No cell of these rows narrows 'for every input' (looked for: loops, veiled, ifaces, maps, wideKeys, modest, calm, conditions, laid).
  DERIVED. THE GIVEN ROWS OF THIS SEAT. 4 by the template 'for every input the law returns true; each argument reads behind the call as it read before'; 0 by the template 'total and deterministic' (their statements: YtlggjijgilcloaaTotals.lean).
  GIVEN WITH THE SEED: the statements are not yours to turn. If you find one false, say at which input.
  Laid BY PROGRAM, IN A SANDBOX (cutbox-rows.mjs): the forced cells as the released guide's own fill.sh prints them over the translation d65bf2203f6250a4… (all of the seat's roots in one cut). By AI agents, Wed Nov 11 2026. No macro, syntax, notation, axiom, sorry.
-/
import Derived.Test.YtlggjijgilcloaaChecked
import GoSem.Claim
import GoSem.ClaimJoined
import GoSem.ClaimMapViews
import Derived.JoinedTies
import Derived.KernelRfl
namespace Go.Proofs.Ytlggjijgilcloaa
/- THE CELL 'sum', in the pinned program and in every row, IS THE sha256 OF THE DUMP (.gsa) THAT YtlggjijgilcloaaProg.lean LOADS. Nothing in Lean hashes anything: it is a label: what it is worth is what the hold of that sum in a sandbox is worth. -/
noncomputable def Try.pinned : Pinned := { name := "ytlggjijgilcloaa", sum := "d65bf2203f6250a4b46f5afb036583908f3e31792ee168f8705ac3412a87654b", checked := Try.checked }
namespace Rows
def none {H : Type} : Left H := { results := [], args := [] }

/-- 'biscottilaw18.SeenAdds': WHATEVER THE INPUT: true; the input reads as it did. -/
def seenAddsSpec : ChangeSpec := { name := "seenAdds", fn := fun _ => fun
  | [d1, d2] => { results := [.lit (.bool true)], args := [d1, d2] }
  | _ => none }
def seenAddsRow : OpenClaim := { program := "ytlggjijgilcloaa", sum := "d65bf2203f6250a4b46f5afb036583908f3e31792ee168f8705ac3412a87654b", func := "biscotti/biscottilaw18.SeenAdds", spec := "seenAdds", unfollowed := true, recurses := true, plainKeys := false, apart := false }
def SeenAddsSaid : Prop := seenAddsRow.holds Try.pinned (OpenSpec.ofChange seenAddsSpec)

/-- ITS FALSE NEIGHBOUR: 'it returns false'. Refute it at one input. -/
def seenAddsWrong : ChangeSpec := { name := "seenAdds", fn := fun _ => fun
  | [d1, d2] => { results := [.lit (.bool false)], args := [d1, d2] }
  | _ => none }
def SeenAddsWrongFalsely : Prop := seenAddsRow.holds Try.pinned (OpenSpec.ofChange seenAddsWrong)

/-- 'biscottilaw18.SeenJoins': WHATEVER THE INPUT: true; the input reads as it did. -/
def seenJoinsSpec : ChangeSpec := { name := "seenJoins", fn := fun _ => fun
  | [d1, d2] => { results := [.lit (.bool true)], args := [d1, d2] }
  | _ => none }
def seenJoinsRow : OpenClaim := { program := "ytlggjijgilcloaa", sum := "d65bf2203f6250a4b46f5afb036583908f3e31792ee168f8705ac3412a87654b", func := "biscotti/biscottilaw18.SeenJoins", spec := "seenJoins", unfollowed := true, recurses := true, plainKeys := false, apart := false }
def SeenJoinsSaid : Prop := seenJoinsRow.holds Try.pinned (OpenSpec.ofChange seenJoinsSpec)

/-- ITS FALSE NEIGHBOUR: 'it returns false'. Refute it at one input. -/
def seenJoinsWrong : ChangeSpec := { name := "seenJoins", fn := fun _ => fun
  | [d1, d2] => { results := [.lit (.bool false)], args := [d1, d2] }
  | _ => none }
def SeenJoinsWrongFalsely : Prop := seenJoinsRow.holds Try.pinned (OpenSpec.ofChange seenJoinsWrong)

/-- 'biscottilaw18.SeenTurned': WHATEVER THE INPUT: true; the input reads as it did. -/
def seenTurnedSpec : ChangeSpec := { name := "seenTurned", fn := fun _ => fun
  | [d1, d2] => { results := [.lit (.bool true)], args := [d1, d2] }
  | _ => none }
def seenTurnedRow : OpenClaim := { program := "ytlggjijgilcloaa", sum := "d65bf2203f6250a4b46f5afb036583908f3e31792ee168f8705ac3412a87654b", func := "biscotti/biscottilaw18.SeenTurned", spec := "seenTurned", unfollowed := true, recurses := true, plainKeys := false, apart := false }
def SeenTurnedSaid : Prop := seenTurnedRow.holds Try.pinned (OpenSpec.ofChange seenTurnedSpec)

/-- ITS FALSE NEIGHBOUR: 'it returns false'. Refute it at one input. -/
def seenTurnedWrong : ChangeSpec := { name := "seenTurned", fn := fun _ => fun
  | [d1, d2] => { results := [.lit (.bool false)], args := [d1, d2] }
  | _ => none }
def SeenTurnedWrongFalsely : Prop := seenTurnedRow.holds Try.pinned (OpenSpec.ofChange seenTurnedWrong)

/-- 'biscottilaw18.SeenNils': WHATEVER THE INPUT: true; the input reads as it did. -/
def seenNilsSpec : ChangeSpec := { name := "seenNils", fn := fun _ => fun
  | [d1, d2] => { results := [.lit (.bool true)], args := [d1, d2] }
  | _ => none }
def seenNilsRow : OpenClaim := { program := "ytlggjijgilcloaa", sum := "d65bf2203f6250a4b46f5afb036583908f3e31792ee168f8705ac3412a87654b", func := "biscotti/biscottilaw18.SeenNils", spec := "seenNils", unfollowed := true, recurses := true, plainKeys := false, apart := false }
def SeenNilsSaid : Prop := seenNilsRow.holds Try.pinned (OpenSpec.ofChange seenNilsSpec)

/-- ITS FALSE NEIGHBOUR: 'it returns false'. Refute it at one input. -/
def seenNilsWrong : ChangeSpec := { name := "seenNils", fn := fun _ => fun
  | [d1, d2] => { results := [.lit (.bool false)], args := [d1, d2] }
  | _ => none }
def SeenNilsWrongFalsely : Prop := seenNilsRow.holds Try.pinned (OpenSpec.ofChange seenNilsWrong)

/- THE SECOND FORM. 'bulk': how many values and letters a reading holds, each counted each time it is reached (what is shared counts as often as it is met; a slice's spare places count too). A statement '..UptoSaid' is the law's where the arguments, and the package variables that the reading takes, are together of bulk at most 1048576: NARROWER than '..Said'. Prove '..Said' where nothing that the law and all that it calls make is longer than what came in: it says more and counts as full. Else prove '..UptoSaid'. A law counts once. -/
mutual
def uptoBulk {H : Type} : DataW H → Nat
  | .lit (.string bytes) => bytes.length + 1
  | .lit _ => 1
  | .nil => 1
  | .ptr d => uptoBulk d + 1
  | .slice elems spare => uptoBulkAll elems + uptoBulkAll spare + 1
  | .agg parts => uptoBulkAll parts + 1
  | .iface _ d => uptoBulk d + 1
  | .map entries => uptoBulkEntries entries + 1
  | .held _ => 1
def uptoBulkAll {H : Type} : List (DataW H) → Nat
  | [] => 0
  | d :: r => uptoBulk d + uptoBulkAll r
def uptoBulkEntries {H : Type} : List (Lit × DataW H) → Nat
  | [] => 0
  | x :: r => uptoBulkEntry x + uptoBulkEntries r
def uptoBulkEntry {H : Type} : Lit × DataW H → Nat
  | (.string bytes, d) => bytes.length + uptoBulk d + 1
  | (_, d) => uptoBulk d + 1
 end
def uptoSmall : (H : Type) → List (DataW H) → Bool := fun _ ds => decide (uptoBulkAll ds ≤ 1048576)
def OpenSpec.upto (s : _root_.Go.ChangeSpec) : _root_.Go.OpenSpec := { _root_.Go.OpenSpec.ofChange s with cond := some uptoSmall }

/-- 'biscottilaw18.SeenAdds', WHERE WHAT IT READS IS OF BULK AT MOST 1048576: true; the input reads as it did. -/
def seenAddsUptoRow : OpenClaim := { program := "ytlggjijgilcloaa", sum := "d65bf2203f6250a4b46f5afb036583908f3e31792ee168f8705ac3412a87654b", func := "biscotti/biscottilaw18.SeenAdds", spec := "seenAdds", unfollowed := true, recurses := true, plainKeys := false, apart := false, narrowed := true }
def SeenAddsUptoSaid : Prop := seenAddsUptoRow.holds Try.pinned (OpenSpec.upto seenAddsSpec)

/-- 'biscottilaw18.SeenJoins', WHERE WHAT IT READS IS OF BULK AT MOST 1048576: true; the input reads as it did. -/
def seenJoinsUptoRow : OpenClaim := { program := "ytlggjijgilcloaa", sum := "d65bf2203f6250a4b46f5afb036583908f3e31792ee168f8705ac3412a87654b", func := "biscotti/biscottilaw18.SeenJoins", spec := "seenJoins", unfollowed := true, recurses := true, plainKeys := false, apart := false, narrowed := true }
def SeenJoinsUptoSaid : Prop := seenJoinsUptoRow.holds Try.pinned (OpenSpec.upto seenJoinsSpec)

/-- 'biscottilaw18.SeenTurned', WHERE WHAT IT READS IS OF BULK AT MOST 1048576: true; the input reads as it did. -/
def seenTurnedUptoRow : OpenClaim := { program := "ytlggjijgilcloaa", sum := "d65bf2203f6250a4b46f5afb036583908f3e31792ee168f8705ac3412a87654b", func := "biscotti/biscottilaw18.SeenTurned", spec := "seenTurned", unfollowed := true, recurses := true, plainKeys := false, apart := false, narrowed := true }
def SeenTurnedUptoSaid : Prop := seenTurnedUptoRow.holds Try.pinned (OpenSpec.upto seenTurnedSpec)

/-- 'biscottilaw18.SeenNils', WHERE WHAT IT READS IS OF BULK AT MOST 1048576: true; the input reads as it did. -/
def seenNilsUptoRow : OpenClaim := { program := "ytlggjijgilcloaa", sum := "d65bf2203f6250a4b46f5afb036583908f3e31792ee168f8705ac3412a87654b", func := "biscotti/biscottilaw18.SeenNils", spec := "seenNils", unfollowed := true, recurses := true, plainKeys := false, apart := false, narrowed := true }
def SeenNilsUptoSaid : Prop := seenNilsUptoRow.holds Try.pinned (OpenSpec.upto seenNilsSpec)

end Rows
end Go.Proofs.Ytlggjijgilcloaa
