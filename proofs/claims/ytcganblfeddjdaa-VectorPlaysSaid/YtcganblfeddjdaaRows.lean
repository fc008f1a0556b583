/-
  No cell of these rows narrows 'for every input' (looked for: loops, veiled, ifaces, maps, wideKeys, modest, calm, conditions, laid).
  DERIVED. THE GIVEN ROWS OF THIS SEAT. 5 by the template 'for every input the law returns true; each argument reads behind the call as it read before'; 0 by the template 'total and deterministic' (their statements: YtcganblfeddjdaaTotals.lean).
  GIVEN WITH THE SEED: the statements are not yours to turn. If you find one false, say at which input.
  Laid BY PROGRAM, IN A SANDBOX (cutbox-rows.mjs): the forced cells as the released guide's own fill.sh prints them over the translation 214c407da22cfc7e… (all of the seat's roots in one cut). By AI agents, Wed Nov 11 2026. No macro, syntax, notation, axiom, sorry.
-/
import Derived.Test.YtcganblfeddjdaaChecked
import GoSem.Claim
import GoSem.ClaimJoined
import GoSem.ClaimMapViews
import Derived.JoinedTies
import Derived.KernelRfl
namespace Go.Proofs.Ytcganblfeddjdaa
/- THE CELL 'sum', in the pinned program and in every row, IS THE sha256 OF THE DUMP (.gsa) THAT YtcganblfeddjdaaProg.lean LOADS. Nothing in Lean hashes anything: it is a label: what it is worth is what the hold of that sum in a sandbox is worth. -/
noncomputable def Try.pinned : Pinned := { name := "ytcganblfeddjdaa", sum := "214c407da22cfc7eeca097b1e8f023c9487cf9a8ad657a11af1ddd20d06148b3", checked := Try.checked }
namespace Rows
def none {H : Type} : Left H := { results := [], args := [] }

/-- 'biscottilaw17.VectorPlays': WHATEVER THE INPUT: true; the input reads as it did. -/
def vectorPlaysSpec : ChangeSpec := { name := "vectorPlays", fn := fun _ => fun
  | [d1, d2, d3] => { results := [.lit (.bool true)], args := [d1, d2, d3] }
  | _ => none }
def vectorPlaysRow : OpenClaim := { program := "ytcganblfeddjdaa", sum := "214c407da22cfc7eeca097b1e8f023c9487cf9a8ad657a11af1ddd20d06148b3", func := "biscotti/biscottilaw17.VectorPlays", spec := "vectorPlays", unfollowed := true, recurses := true, plainKeys := false, apart := false }
def VectorPlaysSaid : Prop := vectorPlaysRow.holds Try.pinned (OpenSpec.ofChange vectorPlaysSpec)

/-- ITS FALSE NEIGHBOUR: 'it returns false'. Refute it at one input. -/
def vectorPlaysWrong : ChangeSpec := { name := "vectorPlays", fn := fun _ => fun
  | [d1, d2, d3] => { results := [.lit (.bool false)], args := [d1, d2, d3] }
  | _ => none }
def VectorPlaysWrongFalsely : Prop := vectorPlaysRow.holds Try.pinned (OpenSpec.ofChange vectorPlaysWrong)

/-- 'biscottilaw17.VectorJoins': WHATEVER THE INPUT: true; the input reads as it did. -/
def vectorJoinsSpec : ChangeSpec := { name := "vectorJoins", fn := fun _ => fun
  | [d1, d2] => { results := [.lit (.bool true)], args := [d1, d2] }
  | _ => none }
def vectorJoinsRow : OpenClaim := { program := "ytcganblfeddjdaa", sum := "214c407da22cfc7eeca097b1e8f023c9487cf9a8ad657a11af1ddd20d06148b3", func := "biscotti/biscottilaw17.VectorJoins", spec := "vectorJoins", unfollowed := true, recurses := true, plainKeys := false, apart := false }
def VectorJoinsSaid : Prop := vectorJoinsRow.holds Try.pinned (OpenSpec.ofChange vectorJoinsSpec)

/-- ITS FALSE NEIGHBOUR: 'it returns false'. Refute it at one input. -/
def vectorJoinsWrong : ChangeSpec := { name := "vectorJoins", fn := fun _ => fun
  | [d1, d2] => { results := [.lit (.bool false)], args := [d1, d2] }
  | _ => none }
def VectorJoinsWrongFalsely : Prop := vectorJoinsRow.holds Try.pinned (OpenSpec.ofChange vectorJoinsWrong)

/-- 'biscottilaw17.VectorLeast': WHATEVER THE INPUT: true; the input reads as it did. -/
def vectorLeastSpec : ChangeSpec := { name := "vectorLeast", fn := fun _ => fun
  | [d1, d2, d3] => { results := [.lit (.bool true)], args := [d1, d2, d3] }
  | _ => none }
def vectorLeastRow : OpenClaim := { program := "ytcganblfeddjdaa", sum := "214c407da22cfc7eeca097b1e8f023c9487cf9a8ad657a11af1ddd20d06148b3", func := "biscotti/biscottilaw17.VectorLeast", spec := "vectorLeast", unfollowed := true, recurses := true, plainKeys := false, apart := false }
def VectorLeastSaid : Prop := vectorLeastRow.holds Try.pinned (OpenSpec.ofChange vectorLeastSpec)

/-- ITS FALSE NEIGHBOUR: 'it returns false'. Refute it at one input. -/
def vectorLeastWrong : ChangeSpec := { name := "vectorLeast", fn := fun _ => fun
  | [d1, d2, d3] => { results := [.lit (.bool false)], args := [d1, d2, d3] }
  | _ => none }
def VectorLeastWrongFalsely : Prop := vectorLeastRow.holds Try.pinned (OpenSpec.ofChange vectorLeastWrong)

/-- 'biscottilaw17.VectorOf': WHATEVER THE INPUT: true; the input reads as it did. -/
def vectorOfSpec : ChangeSpec := { name := "vectorOf", fn := fun _ => fun
  | [d] => { results := [.lit (.bool true)], args := [d] }
  | _ => none }
def vectorOfRow : OpenClaim := { program := "ytcganblfeddjdaa", sum := "214c407da22cfc7eeca097b1e8f023c9487cf9a8ad657a11af1ddd20d06148b3", func := "biscotti/biscottilaw17.VectorOf", spec := "vectorOf", unfollowed := true, recurses := true, plainKeys := false, apart := false }
def VectorOfSaid : Prop := vectorOfRow.holds Try.pinned (OpenSpec.ofChange vectorOfSpec)

/-- ITS FALSE NEIGHBOUR: 'it returns false'. Refute it at one input. -/
def vectorOfWrong : ChangeSpec := { name := "vectorOf", fn := fun _ => fun
  | [d] => { results := [.lit (.bool false)], args := [d] }
  | _ => none }
def VectorOfWrongFalsely : Prop := vectorOfRow.holds Try.pinned (OpenSpec.ofChange vectorOfWrong)

/-- 'biscottilaw17.VectorNils': WHATEVER THE INPUT: true; the input reads as it did. -/
def vectorNilsSpec : ChangeSpec := { name := "vectorNils", fn := fun _ => fun
  | [d1, d2] => { results := [.lit (.bool true)], args := [d1, d2] }
  | _ => none }
def vectorNilsRow : OpenClaim := { program := "ytcganblfeddjdaa", sum := "214c407da22cfc7eeca097b1e8f023c9487cf9a8ad657a11af1ddd20d06148b3", func := "biscotti/biscottilaw17.VectorNils", spec := "vectorNils", unfollowed := true, recurses := true, plainKeys := false, apart := false }
def VectorNilsSaid : Prop := vectorNilsRow.holds Try.pinned (OpenSpec.ofChange vectorNilsSpec)

/-- ITS FALSE NEIGHBOUR: 'it returns false'. Refute it at one input. -/
def vectorNilsWrong : ChangeSpec := { name := "vectorNils", fn := fun _ => fun
  | [d1, d2] => { results := [.lit (.bool false)], args := [d1, d2] }
  | _ => none }
def VectorNilsWrongFalsely : Prop := vectorNilsRow.holds Try.pinned (OpenSpec.ofChange vectorNilsWrong)

/- THE SECOND FORM. 'bulk': how many values and letters a reading holds, each counted each time it is reached (what is shared counts as often as it is met; a slice's spare places count too). A statement '..UptoSaid' is the law's where the arguments, and the package variables that the reading takes, are together of bulk at most 1048576: NARROWER than '..Said'. Prove '..Said' where nothing that the law and all that it calls make is longer than what came in: it says more and counts as full. Else prove '..UptoSaid'. A law counts once. -/
mutual
def uptoBulk {H : Type} : DataW H → Nat
  | .lit (.string bytes) => bytes.length + 1
  | .lit _ => 1
  | .nil => 1
  | .ptr d => uptoBulk d + 1
  | .slice elems spare => uptoBulkAll elems + uptoBulkAll spare + 1
  | .agg parts => uptoBulkAll parts + 1
  | .iface _ d => uptoBulk d + 1
  | .map entries => uptoBulkEntries entries + 1
  | .held _ => 1
def uptoBulkAll {H : Type} : List (DataW H) → Nat
  | [] => 0
  | d :: r => uptoBulk d + uptoBulkAll r
def uptoBulkEntries {H : Type} : List (Lit × DataW H) → Nat
  | [] => 0
  | x :: r => uptoBulkEntry x + uptoBulkEntries r
def uptoBulkEntry {H : Type} : Lit × DataW H → Nat
  | (.string bytes, d) => bytes.length + uptoBulk d + 1
  | (_, d) => uptoBulk d + 1
 end
def uptoSmall : (H : Type) → List (DataW H) → Bool := fun _ ds => decide (uptoBulkAll ds ≤ 1048576)
def OpenSpec.upto (s : _root_.Go.ChangeSpec) : _root_.Go.OpenSpec := { _root_.Go.OpenSpec.ofChange s with cond := some uptoSmall }

/-- 'biscottilaw17.VectorPlays', WHERE WHAT IT READS IS OF BULK AT MOST 1048576: true; the input reads as it did. -/
def vectorPlaysUptoRow : OpenClaim := { program := "ytcganblfeddjdaa", sum := "214c407da22cfc7eeca097b1e8f023c9487cf9a8ad657a11af1ddd20d06148b3", func := "biscotti/biscottilaw17.VectorPlays", spec := "vectorPlays", unfollowed := true, recurses := true, plainKeys := false, apart := false, narrowed := true }
def VectorPlaysUptoSaid : Prop := vectorPlaysUptoRow.holds Try.pinned (OpenSpec.upto vectorPlaysSpec)

/-- 'biscottilaw17.VectorJoins', WHERE WHAT IT READS IS OF BULK AT MOST 1048576: true; the input reads as it did. -/
def vectorJoinsUptoRow : OpenClaim := { program := "ytcganblfeddjdaa", sum := "214c407da22cfc7eeca097b1e8f023c9487cf9a8ad657a11af1ddd20d06148b3", func := "biscotti/biscottilaw17.VectorJoins", spec := "vectorJoins", unfollowed := true, recurses := true, plainKeys := false, apart := false, narrowed := true }
def VectorJoinsUptoSaid : Prop := vectorJoinsUptoRow.holds Try.pinned (OpenSpec.upto vectorJoinsSpec)

/-- 'biscottilaw17.VectorLeast', WHERE WHAT IT READS IS OF BULK AT MOST 1048576: true; the input reads as it did. -/
def vectorLeastUptoRow : OpenClaim := { program := "ytcganblfeddjdaa", sum := "214c407da22cfc7eeca097b1e8f023c9487cf9a8ad657a11af1ddd20d06148b3", func := "biscotti/biscottilaw17.VectorLeast", spec := "vectorLeast", unfollowed := true, recurses := true, plainKeys := false, apart := false, narrowed := true }
def VectorLeastUptoSaid : Prop := vectorLeastUptoRow.holds Try.pinned (OpenSpec.upto vectorLeastSpec)

/-- 'biscottilaw17.VectorOf', WHERE WHAT IT READS IS OF BULK AT MOST 1048576: true; the input reads as it did. -/
def vectorOfUptoRow : OpenClaim := { program := "ytcganblfeddjdaa", sum := "214c407da22cfc7eeca097b1e8f023c9487cf9a8ad657a11af1ddd20d06148b3", func := "biscotti/biscottilaw17.VectorOf", spec := "vectorOf", unfollowed := true, recurses := true, plainKeys := false, apart := false, narrowed := true }
def VectorOfUptoSaid : Prop := vectorOfUptoRow.holds Try.pinned (OpenSpec.upto vectorOfSpec)

/-- 'biscottilaw17.VectorNils', WHERE WHAT IT READS IS OF BULK AT MOST 1048576: true; the input reads as it did. -/
def vectorNilsUptoRow : OpenClaim := { program := "ytcganblfeddjdaa", sum := "214c407da22cfc7eeca097b1e8f023c9487cf9a8ad657a11af1ddd20d06148b3", func := "biscotti/biscottilaw17.VectorNils", spec := "vectorNils", unfollowed := true, recurses := true, plainKeys := false, apart := false, narrowed := true }
def VectorNilsUptoSaid : Prop := vectorNilsUptoRow.holds Try.pinned (OpenSpec.upto vectorNilsSpec)

end Rows
end Go.Proofs.Ytcganblfeddjdaa
