/-
  NARROWER THAN 'FOR EVERY INPUT', by the rows' own cells (each row's printed sentence says how): AttrsReads: laid · AttrsExpire: laid · AttrsLast: laid · AttrsLetters: laid.
  DERIVED. THE GIVEN ROWS OF THIS SEAT. 4 by the template 'for every input the law returns true; each argument reads behind the call as it read before'; 0 by the template 'total and deterministic' (their statements: YtjcilpedpimdcaaDoorTotals.lean).
  GIVEN WITH THE SEED: the statements are not yours to turn. If you find one false, say at which input.
  Laid BY PROGRAM, IN A SANDBOX (cutbox-rows.mjs): the forced cells as the released guide's own fill.sh prints them over the translation e2cb3a7c8790daef… (all of the seat's roots in one cut). By AI agents, Wed Nov 11 2026. No macro, syntax, notation, axiom, sorry.
-/
import Derived.Test.YtjcilpedpimdcaaDoorChecked
import GoSem.Claim
import GoSem.ClaimJoined
import GoSem.ClaimMapViews
import Derived.JoinedTies
import Derived.KernelRfl
namespace Go.Proofs.YtjcilpedpimdcaaDoor
/- THE CELL 'sum', in the pinned program and in every row, IS THE sha256 OF THE DUMP (.gsa) THAT YtjcilpedpimdcaaDoorProg.lean LOADS. Nothing in Lean hashes anything: it is a label: what it is worth is what the hold of that sum in a sandbox is worth. -/
noncomputable def Tryd.pinned : Pinned := { name := "ytjcilpedpimdcaadoor", sum := "e2cb3a7c8790daef538538c2b718880466c11aa755c32edf43679e1e081493e0", checked := Tryd.checked }
namespace Rows
def none {H : Type} : Left H := { results := [], args := [] }

/- WHAT THE LISTED PACKAGE-LEVEL VARIABLES READ AS WHEN THE CALL BEGINS. Each datum BY PROGRAM (the guide's laid-datum.mjs) off the statement by which the dump's own 'gosem.cut.vars' lays the variable. In a bare row this is a premise. The card (YtjcilpedpimdcaaDoorCards.lean) ties it to the program's text. -/
def laid_biscotti_date_months {H : Type} : DataW H := .agg [.lit (.string [74, 97, 110]), .lit (.string [70, 101, 98]), .lit (.string [77, 97, 114]), .lit (.string [65, 112, 114]), .lit (.string [77, 97, 121]), .lit (.string [74, 117, 110]), .lit (.string [74, 117, 108]), .lit (.string [65, 117, 103]), .lit (.string [83, 101, 112]), .lit (.string [79, 99, 116]), .lit (.string [78, 111, 118]), .lit (.string [68, 101, 99])]
def laid_biscotti_date_lengths {H : Type} : DataW H := .agg [.lit (.int .i64 31), .lit (.int .i64 28), .lit (.int .i64 31), .lit (.int .i64 30), .lit (.int .i64 31), .lit (.int .i64 30), .lit (.int .i64 31), .lit (.int .i64 31), .lit (.int .i64 30), .lit (.int .i64 31), .lit (.int .i64 30), .lit (.int .i64 31)]

/-- 'biscottilaw13.AttrsReads': WHATEVER THE INPUT: true; the input reads as it did. -/
def attrsReadsSpec : ChangeSpec := { name := "attrsReads", fn := fun _ => fun
  | [d] => { results := [.lit (.bool true)], args := [d] }
  | _ => none }
def attrsReadsRow : OpenClaim := { program := "ytjcilpedpimdcaadoor", sum := "e2cb3a7c8790daef538538c2b718880466c11aa755c32edf43679e1e081493e0", func := "biscotti/biscottilaw13.AttrsReads", spec := "attrsReads", unfollowed := true, recurses := true, named := ["biscotti/date.months", "biscotti/date.lengths"], apart := false, laid := [("biscotti/date.months", laid_biscotti_date_months), ("biscotti/date.lengths", laid_biscotti_date_lengths)] }
def AttrsReadsSaid : Prop := attrsReadsRow.holds Tryd.pinned (OpenSpec.ofChange attrsReadsSpec)

/-- ITS FALSE NEIGHBOUR: 'it returns false'. Refute it at one input. -/
def attrsReadsWrong : ChangeSpec := { name := "attrsReads", fn := fun _ => fun
  | [d] => { results := [.lit (.bool false)], args := [d] }
  | _ => none }
def AttrsReadsWrongFalsely : Prop := attrsReadsRow.holds Tryd.pinned (OpenSpec.ofChange attrsReadsWrong)

/-- 'biscottilaw13.AttrsExpire': WHATEVER THE INPUT: true; the input reads as it did. -/
def attrsExpireSpec : ChangeSpec := { name := "attrsExpire", fn := fun _ => fun
  | [d1, d2] => { results := [.lit (.bool true)], args := [d1, d2] }
  | _ => none }
def attrsExpireRow : OpenClaim := { program := "ytjcilpedpimdcaadoor", sum := "e2cb3a7c8790daef538538c2b718880466c11aa755c32edf43679e1e081493e0", func := "biscotti/biscottilaw13.AttrsExpire", spec := "attrsExpire", unfollowed := true, recurses := true, named := ["biscotti/date.months", "biscotti/date.lengths"], apart := false, laid := [("biscotti/date.months", laid_biscotti_date_months), ("biscotti/date.lengths", laid_biscotti_date_lengths)] }
def AttrsExpireSaid : Prop := attrsExpireRow.holds Tryd.pinned (OpenSpec.ofChange attrsExpireSpec)

/-- ITS FALSE NEIGHBOUR: 'it returns false'. Refute it at one input. -/
def attrsExpireWrong : ChangeSpec := { name := "attrsExpire", fn := fun _ => fun
  | [d1, d2] => { results := [.lit (.bool false)], args := [d1, d2] }
  | _ => none }
def AttrsExpireWrongFalsely : Prop := attrsExpireRow.holds Tryd.pinned (OpenSpec.ofChange attrsExpireWrong)

/-- 'biscottilaw13.AttrsLast': WHATEVER THE INPUT: true; the input reads as it did. -/
def attrsLastSpec : ChangeSpec := { name := "attrsLast", fn := fun _ => fun
  | [d] => { results := [.lit (.bool true)], args := [d] }
  | _ => none }
def attrsLastRow : OpenClaim := { program := "ytjcilpedpimdcaadoor", sum := "e2cb3a7c8790daef538538c2b718880466c11aa755c32edf43679e1e081493e0", func := "biscotti/biscottilaw13.AttrsLast", spec := "attrsLast", unfollowed := true, recurses := true, named := ["biscotti/date.months", "biscotti/date.lengths"], apart := false, laid := [("biscotti/date.months", laid_biscotti_date_months), ("biscotti/date.lengths", laid_biscotti_date_lengths)] }
def AttrsLastSaid : Prop := attrsLastRow.holds Tryd.pinned (OpenSpec.ofChange attrsLastSpec)

/-- ITS FALSE NEIGHBOUR: 'it returns false'. Refute it at one input. -/
def attrsLastWrong : ChangeSpec := { name := "attrsLast", fn := fun _ => fun
  | [d] => { results := [.lit (.bool false)], args := [d] }
  | _ => none }
def AttrsLastWrongFalsely : Prop := attrsLastRow.holds Tryd.pinned (OpenSpec.ofChange attrsLastWrong)

/-- 'biscottilaw13.AttrsLetters': WHATEVER THE INPUT: true; the input reads as it did. -/
def attrsLettersSpec : ChangeSpec := { name := "attrsLetters", fn := fun _ => fun
  | [d] => { results := [.lit (.bool true)], args := [d] }
  | _ => none }
def attrsLettersRow : OpenClaim := { program := "ytjcilpedpimdcaadoor", sum := "e2cb3a7c8790daef538538c2b718880466c11aa755c32edf43679e1e081493e0", func := "biscotti/biscottilaw13.AttrsLetters", spec := "attrsLetters", unfollowed := true, recurses := true, named := ["biscotti/date.months", "biscotti/date.lengths"], apart := false, laid := [("biscotti/date.months", laid_biscotti_date_months), ("biscotti/date.lengths", laid_biscotti_date_lengths)] }
def AttrsLettersSaid : Prop := attrsLettersRow.holds Tryd.pinned (OpenSpec.ofChange attrsLettersSpec)

/-- ITS FALSE NEIGHBOUR: 'it returns false'. Refute it at one input. -/
def attrsLettersWrong : ChangeSpec := { name := "attrsLetters", fn := fun _ => fun
  | [d] => { results := [.lit (.bool false)], args := [d] }
  | _ => none }
def AttrsLettersWrongFalsely : Prop := attrsLettersRow.holds Tryd.pinned (OpenSpec.ofChange attrsLettersWrong)

/- THE SECOND FORM. 'bulk': how many values and letters a reading holds, each counted each time it is reached (what is shared counts as often as it is met; a slice's spare places count too). A statement '..UptoSaid' is the law's where the arguments, and the package variables that the reading takes, are together of bulk at most 1048576: NARROWER than '..Said'. Prove '..Said' where nothing that the law and all that it calls make is longer than what came in: it says more and counts as full. Else prove '..UptoSaid'. A law counts once. -/
mutual
def uptoBulk {H : Type} : DataW H → Nat
  | .lit (.string bytes) => bytes.length + 1
  | .lit _ => 1
  | .nil => 1
  | .ptr d => uptoBulk d + 1
  | .slice elems spare => uptoBulkAll elems + uptoBulkAll spare + 1
  | .agg parts => uptoBulkAll parts + 1
  | .iface _ d => uptoBulk d + 1
  | .map entries => uptoBulkEntries entries + 1
  | .held _ => 1
def uptoBulkAll {H : Type} : List (DataW H) → Nat
  | [] => 0
  | d :: r => uptoBulk d + uptoBulkAll r
def uptoBulkEntries {H : Type} : List (Lit × DataW H) → Nat
  | [] => 0
  | x :: r => uptoBulkEntry x + uptoBulkEntries r
def uptoBulkEntry {H : Type} : Lit × DataW H → Nat
  | (.string bytes, d) => bytes.length + uptoBulk d + 1
  | (_, d) => uptoBulk d + 1
 end
def uptoSmall : (H : Type) → List (DataW H) → Bool := fun _ ds => decide (uptoBulkAll ds ≤ 1048576)
def OpenSpec.upto (s : _root_.Go.ChangeSpec) : _root_.Go.OpenSpec := { _root_.Go.OpenSpec.ofChange s with cond := some uptoSmall }

/-- 'biscottilaw13.AttrsReads', WHERE WHAT IT READS IS OF BULK AT MOST 1048576: true; the input reads as it did. -/
def attrsReadsUptoRow : OpenClaim := { program := "ytjcilpedpimdcaadoor", sum := "e2cb3a7c8790daef538538c2b718880466c11aa755c32edf43679e1e081493e0", func := "biscotti/biscottilaw13.AttrsReads", spec := "attrsReads", unfollowed := true, recurses := true, named := ["biscotti/date.months", "biscotti/date.lengths"], apart := false, laid := [("biscotti/date.months", laid_biscotti_date_months), ("biscotti/date.lengths", laid_biscotti_date_lengths)], narrowed := true }
def AttrsReadsUptoSaid : Prop := attrsReadsUptoRow.holds Tryd.pinned (OpenSpec.upto attrsReadsSpec)

/-- 'biscottilaw13.AttrsExpire', WHERE WHAT IT READS IS OF BULK AT MOST 1048576: true; the input reads as it did. -/
def attrsExpireUptoRow : OpenClaim := { program := "ytjcilpedpimdcaadoor", sum := "e2cb3a7c8790daef538538c2b718880466c11aa755c32edf43679e1e081493e0", func := "biscotti/biscottilaw13.AttrsExpire", spec := "attrsExpire", unfollowed := true, recurses := true, named := ["biscotti/date.months", "biscotti/date.lengths"], apart := false, laid := [("biscotti/date.months", laid_biscotti_date_months), ("biscotti/date.lengths", laid_biscotti_date_lengths)], narrowed := true }
def AttrsExpireUptoSaid : Prop := attrsExpireUptoRow.holds Tryd.pinned (OpenSpec.upto attrsExpireSpec)

/-- 'biscottilaw13.AttrsLast', WHERE WHAT IT READS IS OF BULK AT MOST 1048576: true; the input reads as it did. -/
def attrsLastUptoRow : OpenClaim := { program := "ytjcilpedpimdcaadoor", sum := "e2cb3a7c8790daef538538c2b718880466c11aa755c32edf43679e1e081493e0", func := "biscotti/biscottilaw13.AttrsLast", spec := "attrsLast", unfollowed := true, recurses := true, named := ["biscotti/date.months", "biscotti/date.lengths"], apart := false, laid := [("biscotti/date.months", laid_biscotti_date_months), ("biscotti/date.lengths", laid_biscotti_date_lengths)], narrowed := true }
def AttrsLastUptoSaid : Prop := attrsLastUptoRow.holds Tryd.pinned (OpenSpec.upto attrsLastSpec)

/-- 'biscottilaw13.AttrsLetters', WHERE WHAT IT READS IS OF BULK AT MOST 1048576: true; the input reads as it did. -/
def attrsLettersUptoRow : OpenClaim := { program := "ytjcilpedpimdcaadoor", sum := "e2cb3a7c8790daef538538c2b718880466c11aa755c32edf43679e1e081493e0", func := "biscotti/biscottilaw13.AttrsLetters", spec := "attrsLetters", unfollowed := true, recurses := true, named := ["biscotti/date.months", "biscotti/date.lengths"], apart := false, laid := [("biscotti/date.months", laid_biscotti_date_months), ("biscotti/date.lengths", laid_biscotti_date_lengths)], narrowed := true }
def AttrsLettersUptoSaid : Prop := attrsLettersUptoRow.holds Tryd.pinned (OpenSpec.upto attrsLettersSpec)

end Rows
end Go.Proofs.YtjcilpedpimdcaaDoor
