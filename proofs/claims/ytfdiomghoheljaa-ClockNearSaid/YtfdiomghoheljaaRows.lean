/-
  No cell of these rows narrows 'for every input' (looked for: loops, veiled, ifaces, maps, wideKeys, modest, calm, conditions, laid).
  DERIVED. THE GIVEN ROWS OF THIS SEAT. 5 by the template 'for every input the law returns true; each argument reads behind the call as it read before'; 0 by the template 'total and deterministic' (their statements: YtfdiomghoheljaaTotals.lean).
  GIVEN WITH THE SEED: the statements are not yours to turn. If you find one false, say at which input.
  Laid BY PROGRAM, IN A SANDBOX (cutbox-rows.mjs): the forced cells as the released guide's own fill.sh prints them over the translation e5a7307bf75f9490… (all of the seat's roots in one cut). By AI agents, Wed Nov 11 2026. No macro, syntax, notation, axiom, sorry.
-/
import Derived.Test.YtfdiomghoheljaaChecked
import GoSem.Claim
import GoSem.ClaimJoined
import GoSem.ClaimMapViews
import Derived.JoinedTies
import Derived.KernelRfl
namespace Go.Proofs.Ytfdiomghoheljaa
/- THE CELL 'sum', in the pinned program and in every row, IS THE sha256 OF THE DUMP (.gsa) THAT YtfdiomghoheljaaProg.lean LOADS. Nothing in Lean hashes anything: it is a label: what it is worth is what the hold of that sum in a sandbox is worth. -/
noncomputable def Try.pinned : Pinned := { name := "ytfdiomghoheljaa", sum := "e5a7307bf75f9490b360593f2d9146478b3960703d5a3debace76981f811fd72", checked := Try.checked }
namespace Rows
def none {H : Type} : Left H := { results := [], args := [] }

/-- 'biscottilaw19.ClockPlays': WHATEVER THE INPUT: true; the input reads as it did. -/
def clockPlaysSpec : ChangeSpec := { name := "clockPlays", fn := fun _ => fun
  | [d1, d2] => { results := [.lit (.bool true)], args := [d1, d2] }
  | _ => none }
def clockPlaysRow : OpenClaim := { program := "ytfdiomghoheljaa", sum := "e5a7307bf75f9490b360593f2d9146478b3960703d5a3debace76981f811fd72", func := "biscotti/biscottilaw19.ClockPlays", spec := "clockPlays", unfollowed := true, recurses := true, apart := false }
def ClockPlaysSaid : Prop := clockPlaysRow.holds Try.pinned (OpenSpec.ofChange clockPlaysSpec)

/-- ITS FALSE NEIGHBOUR: 'it returns false'. Refute it at one input. -/
def clockPlaysWrong : ChangeSpec := { name := "clockPlays", fn := fun _ => fun
  | [d1, d2] => { results := [.lit (.bool false)], args := [d1, d2] }
  | _ => none }
def ClockPlaysWrongFalsely : Prop := clockPlaysRow.holds Try.pinned (OpenSpec.ofChange clockPlaysWrong)

/-- 'biscottilaw19.ClockGoesOn': WHATEVER THE INPUT: true; the input reads as it did. -/
def clockGoesOnSpec : ChangeSpec := { name := "clockGoesOn", fn := fun _ => fun
  | [d1, d2] => { results := [.lit (.bool true)], args := [d1, d2] }
  | _ => none }
def clockGoesOnRow : OpenClaim := { program := "ytfdiomghoheljaa", sum := "e5a7307bf75f9490b360593f2d9146478b3960703d5a3debace76981f811fd72", func := "biscotti/biscottilaw19.ClockGoesOn", spec := "clockGoesOn", unfollowed := true, recurses := true, apart := false }
def ClockGoesOnSaid : Prop := clockGoesOnRow.holds Try.pinned (OpenSpec.ofChange clockGoesOnSpec)

/-- ITS FALSE NEIGHBOUR: 'it returns false'. Refute it at one input. -/
def clockGoesOnWrong : ChangeSpec := { name := "clockGoesOn", fn := fun _ => fun
  | [d1, d2] => { results := [.lit (.bool false)], args := [d1, d2] }
  | _ => none }
def ClockGoesOnWrongFalsely : Prop := clockGoesOnRow.holds Try.pinned (OpenSpec.ofChange clockGoesOnWrong)

/-- 'biscottilaw19.ClockNear': WHATEVER THE INPUT: true; the input reads as it did. -/
def clockNearSpec : ChangeSpec := { name := "clockNear", fn := fun _ => fun
  | [d1, d2] => { results := [.lit (.bool true)], args := [d1, d2] }
  | _ => none }
def clockNearRow : OpenClaim := { program := "ytfdiomghoheljaa", sum := "e5a7307bf75f9490b360593f2d9146478b3960703d5a3debace76981f811fd72", func := "biscotti/biscottilaw19.ClockNear", spec := "clockNear", unfollowed := true, recurses := true, apart := false }
def ClockNearSaid : Prop := clockNearRow.holds Try.pinned (OpenSpec.ofChange clockNearSpec)

/-- ITS FALSE NEIGHBOUR: 'it returns false'. Refute it at one input. -/
def clockNearWrong : ChangeSpec := { name := "clockNear", fn := fun _ => fun
  | [d1, d2] => { results := [.lit (.bool false)], args := [d1, d2] }
  | _ => none }
def ClockNearWrongFalsely : Prop := clockNearRow.holds Try.pinned (OpenSpec.ofChange clockNearWrong)

/-- 'biscottilaw19.ClockStamps': WHATEVER THE INPUT: true; the input reads as it did. -/
def clockStampsSpec : ChangeSpec := { name := "clockStamps", fn := fun _ => fun
  | [d1, d2] => { results := [.lit (.bool true)], args := [d1, d2] }
  | _ => none }
def clockStampsRow : OpenClaim := { program := "ytfdiomghoheljaa", sum := "e5a7307bf75f9490b360593f2d9146478b3960703d5a3debace76981f811fd72", func := "biscotti/biscottilaw19.ClockStamps", spec := "clockStamps", unfollowed := true, recurses := true, apart := false }
def ClockStampsSaid : Prop := clockStampsRow.holds Try.pinned (OpenSpec.ofChange clockStampsSpec)

/-- ITS FALSE NEIGHBOUR: 'it returns false'. Refute it at one input. -/
def clockStampsWrong : ChangeSpec := { name := "clockStamps", fn := fun _ => fun
  | [d1, d2] => { results := [.lit (.bool false)], args := [d1, d2] }
  | _ => none }
def ClockStampsWrongFalsely : Prop := clockStampsRow.holds Try.pinned (OpenSpec.ofChange clockStampsWrong)

/-- 'biscottilaw19.ClockGets': WHATEVER THE INPUT: true; the input reads as it did. -/
def clockGetsSpec : ChangeSpec := { name := "clockGets", fn := fun _ => fun
  | [d1, d2] => { results := [.lit (.bool true)], args := [d1, d2] }
  | _ => none }
def clockGetsRow : OpenClaim := { program := "ytfdiomghoheljaa", sum := "e5a7307bf75f9490b360593f2d9146478b3960703d5a3debace76981f811fd72", func := "biscotti/biscottilaw19.ClockGets", spec := "clockGets", unfollowed := true, recurses := true, apart := false }
def ClockGetsSaid : Prop := clockGetsRow.holds Try.pinned (OpenSpec.ofChange clockGetsSpec)

/-- ITS FALSE NEIGHBOUR: 'it returns false'. Refute it at one input. -/
def clockGetsWrong : ChangeSpec := { name := "clockGets", fn := fun _ => fun
  | [d1, d2] => { results := [.lit (.bool false)], args := [d1, d2] }
  | _ => none }
def ClockGetsWrongFalsely : Prop := clockGetsRow.holds Try.pinned (OpenSpec.ofChange clockGetsWrong)

/- THE SECOND FORM. 'bulk': how many values and letters a reading holds, each counted each time it is reached (what is shared counts as often as it is met; a slice's spare places count too). A statement '..UptoSaid' is the law's where the arguments, and the package variables that the reading takes, are together of bulk at most 1048576: NARROWER than '..Said'. Prove '..Said' where nothing that the law and all that it calls make is longer than what came in: it says more and counts as full. Else prove '..UptoSaid'. A law counts once. -/
mutual
def uptoBulk {H : Type} : DataW H → Nat
  | .lit (.string bytes) => bytes.length + 1
  | .lit _ => 1
  | .nil => 1
  | .ptr d => uptoBulk d + 1
  | .slice elems spare => uptoBulkAll elems + uptoBulkAll spare + 1
  | .agg parts => uptoBulkAll parts + 1
  | .iface _ d => uptoBulk d + 1
  | .map entries => uptoBulkEntries entries + 1
  | .held _ => 1
def uptoBulkAll {H : Type} : List (DataW H) → Nat
  | [] => 0
  | d :: r => uptoBulk d + uptoBulkAll r
def uptoBulkEntries {H : Type} : List (Lit × DataW H) → Nat
  | [] => 0
  | x :: r => uptoBulkEntry x + uptoBulkEntries r
def uptoBulkEntry {H : Type} : Lit × DataW H → Nat
  | (.string bytes, d) => bytes.length + uptoBulk d + 1
  | (_, d) => uptoBulk d + 1
 end
def uptoSmall : (H : Type) → List (DataW H) → Bool := fun _ ds => decide (uptoBulkAll ds ≤ 1048576)
def OpenSpec.upto (s : _root_.Go.ChangeSpec) : _root_.Go.OpenSpec := { _root_.Go.OpenSpec.ofChange s with cond := some uptoSmall }

/-- 'biscottilaw19.ClockPlays', WHERE WHAT IT READS IS OF BULK AT MOST 1048576: true; the input reads as it did. -/
def clockPlaysUptoRow : OpenClaim := { program := "ytfdiomghoheljaa", sum := "e5a7307bf75f9490b360593f2d9146478b3960703d5a3debace76981f811fd72", func := "biscotti/biscottilaw19.ClockPlays", spec := "clockPlays", unfollowed := true, recurses := true, apart := false, narrowed := true }
def ClockPlaysUptoSaid : Prop := clockPlaysUptoRow.holds Try.pinned (OpenSpec.upto clockPlaysSpec)

/-- 'biscottilaw19.ClockGoesOn', WHERE WHAT IT READS IS OF BULK AT MOST 1048576: true; the input reads as it did. -/
def clockGoesOnUptoRow : OpenClaim := { program := "ytfdiomghoheljaa", sum := "e5a7307bf75f9490b360593f2d9146478b3960703d5a3debace76981f811fd72", func := "biscotti/biscottilaw19.ClockGoesOn", spec := "clockGoesOn", unfollowed := true, recurses := true, apart := false, narrowed := true }
def ClockGoesOnUptoSaid : Prop := clockGoesOnUptoRow.holds Try.pinned (OpenSpec.upto clockGoesOnSpec)

/-- 'biscottilaw19.ClockNear', WHERE WHAT IT READS IS OF BULK AT MOST 1048576: true; the input reads as it did. -/
def clockNearUptoRow : OpenClaim := { program := "ytfdiomghoheljaa", sum := "e5a7307bf75f9490b360593f2d9146478b3960703d5a3debace76981f811fd72", func := "biscotti/biscottilaw19.ClockNear", spec := "clockNear", unfollowed := true, recurses := true, apart := false, narrowed := true }
def ClockNearUptoSaid : Prop := clockNearUptoRow.holds Try.pinned (OpenSpec.upto clockNearSpec)

/-- 'biscottilaw19.ClockStamps', WHERE WHAT IT READS IS OF BULK AT MOST 1048576: true; the input reads as it did. -/
def clockStampsUptoRow : OpenClaim := { program := "ytfdiomghoheljaa", sum := "e5a7307bf75f9490b360593f2d9146478b3960703d5a3debace76981f811fd72", func := "biscotti/biscottilaw19.ClockStamps", spec := "clockStamps", unfollowed := true, recurses := true, apart := false, narrowed := true }
def ClockStampsUptoSaid : Prop := clockStampsUptoRow.holds Try.pinned (OpenSpec.upto clockStampsSpec)

/-- 'biscottilaw19.ClockGets', WHERE WHAT IT READS IS OF BULK AT MOST 1048576: true; the input reads as it did. -/
def clockGetsUptoRow : OpenClaim := { program := "ytfdiomghoheljaa", sum := "e5a7307bf75f9490b360593f2d9146478b3960703d5a3debace76981f811fd72", func := "biscotti/biscottilaw19.ClockGets", spec := "clockGets", unfollowed := true, recurses := true, apart := false, narrowed := true }
def ClockGetsUptoSaid : Prop := clockGetsUptoRow.holds Try.pinned (OpenSpec.upto clockGetsSpec)

end Rows
end Go.Proofs.Ytfdiomghoheljaa
