/-
  NARROWER THAN 'FOR EVERY INPUT', by the rows' own cells (each row's printed sentence says how): OrmapPlays: laid · OrmapKeys: laid · OrmapTurned: laid · OrmapTwice: laid · OrmapNils: laid · OrmapLoads: laid · OrmapBack: laid · DeltaOf: laid · DeltaMerges: laid · DeltaCovers: laid · DeltaJoins: laid · DeltaNils: laid.
  DERIVED. THE GIVEN ROWS OF THIS SEAT. 12 by the template 'for every input the law returns true; each argument reads behind the call as it read before'; 0 by the template 'total and deterministic' (their statements: YtaodjnkjjmhecaaGreatDoorTotals.lean).
  GIVEN WITH THE SEED: the statements are not yours to turn. If you find one false, say at which input.
  Laid BY PROGRAM, IN A SANDBOX (cutbox-rows.mjs): the forced cells as the released guide's own fill.sh prints them over the translation b502911d1b202c40… (all of the seat's roots in one cut). By AI agents, Wed Nov 11 2026. No macro, syntax, notation, axiom, sorry.
-/
import Derived.Test.YtaodjnkjjmhecaaGreatDoorChecked
import GoSem.Claim
import GoSem.ClaimJoined
import GoSem.ClaimMapViews
import Derived.JoinedTies
import Derived.KernelRfl
namespace Go.Proofs.YtaodjnkjjmhecaaGreatDoor
/- THE CELL 'sum', in the pinned program and in every row, IS THE sha256 OF THE DUMP (.gsa) THAT YtaodjnkjjmhecaaGreatDoorProg.lean LOADS. Nothing in Lean hashes anything: it is a label: what it is worth is what the hold of that sum in a sandbox is worth. -/
noncomputable def Tryz.pinned : Pinned := { name := "ytaodjnkjjmhecaagreatdoor", sum := "b502911d1b202c409e5994639f151092c038509ba8feeb9cd8e2b501e26a68a8", checked := Tryz.checked }
namespace Rows
def none {H : Type} : Left H := { results := [], args := [] }

/- WHAT THE LISTED PACKAGE-LEVEL VARIABLES READ AS WHEN THE CALL BEGINS. Each datum BY PROGRAM (the guide's laid-datum.mjs) off the statement by which the dump's own 'gosem.cut.vars' lays the variable. In a bare row this is a premise. The card (YtaodjnkjjmhecaaGreatDoorCards.lean) ties it to the program's text. -/
def laid_math_bits_deBruijn32tab {H : Type} : DataW H := .agg [.lit (.int .u8 0), .lit (.int .u8 1), .lit (.int .u8 28), .lit (.int .u8 2), .lit (.int .u8 29), .lit (.int .u8 14), .lit (.int .u8 24), .lit (.int .u8 3), .lit (.int .u8 30), .lit (.int .u8 22), .lit (.int .u8 20), .lit (.int .u8 15), .lit (.int .u8 25), .lit (.int .u8 17), .lit (.int .u8 4), .lit (.int .u8 8), .lit (.int .u8 31), .lit (.int .u8 27), .lit (.int .u8 13), .lit (.int .u8 23), .lit (.int .u8 21), .lit (.int .u8 19), .lit (.int .u8 16), .lit (.int .u8 7), .lit (.int .u8 26), .lit (.int .u8 12), .lit (.int .u8 18), .lit (.int .u8 6), .lit (.int .u8 11), .lit (.int .u8 5), .lit (.int .u8 10), .lit (.int .u8 9)]
def laid_math_bits_deBruijn64tab {H : Type} : DataW H := .agg [.lit (.int .u8 0), .lit (.int .u8 1), .lit (.int .u8 56), .lit (.int .u8 2), .lit (.int .u8 57), .lit (.int .u8 49), .lit (.int .u8 28), .lit (.int .u8 3), .lit (.int .u8 61), .lit (.int .u8 58), .lit (.int .u8 42), .lit (.int .u8 50), .lit (.int .u8 38), .lit (.int .u8 29), .lit (.int .u8 17), .lit (.int .u8 4), .lit (.int .u8 62), .lit (.int .u8 47), .lit (.int .u8 59), .lit (.int .u8 36), .lit (.int .u8 45), .lit (.int .u8 43), .lit (.int .u8 51), .lit (.int .u8 22), .lit (.int .u8 53), .lit (.int .u8 39), .lit (.int .u8 33), .lit (.int .u8 30), .lit (.int .u8 24), .lit (.int .u8 18), .lit (.int .u8 12), .lit (.int .u8 5), .lit (.int .u8 63), .lit (.int .u8 55), .lit (.int .u8 48), .lit (.int .u8 27), .lit (.int .u8 60), .lit (.int .u8 41), .lit (.int .u8 37), .lit (.int .u8 16), .lit (.int .u8 46), .lit (.int .u8 35), .lit (.int .u8 44), .lit (.int .u8 21), .lit (.int .u8 52), .lit (.int .u8 32), .lit (.int .u8 23), .lit (.int .u8 11), .lit (.int .u8 54), .lit (.int .u8 26), .lit (.int .u8 40), .lit (.int .u8 15), .lit (.int .u8 34), .lit (.int .u8 20), .lit (.int .u8 31), .lit (.int .u8 10), .lit (.int .u8 25), .lit (.int .u8 14), .lit (.int .u8 19), .lit (.int .u8 9), .lit (.int .u8 13), .lit (.int .u8 8), .lit (.int .u8 7), .lit (.int .u8 6)]
def laid_internal_strconv_uint64pow10 {H : Type} : DataW H := .agg [.lit (.int .u64 1), .lit (.int .u64 10), .lit (.int .u64 100), .lit (.int .u64 1000), .lit (.int .u64 10000), .lit (.int .u64 100000), .lit (.int .u64 1000000), .lit (.int .u64 10000000), .lit (.int .u64 100000000), .lit (.int .u64 1000000000), .lit (.int .u64 10000000000), .lit (.int .u64 100000000000), .lit (.int .u64 1000000000000), .lit (.int .u64 10000000000000), .lit (.int .u64 100000000000000), .lit (.int .u64 1000000000000000), .lit (.int .u64 10000000000000000), .lit (.int .u64 100000000000000000), .lit (.int .u64 1000000000000000000), .lit (.int .u64 10000000000000000000)]

/-- 'biscottilaw21.OrmapPlays': WHATEVER THE INPUT: true; the input reads as it did. -/
def ormapPlaysSpec : ChangeSpec := { name := "ormapPlays", fn := fun _ => fun
  | [d] => { results := [.lit (.bool true)], args := [d] }
  | _ => none }
def ormapPlaysRow : OpenClaim := { program := "ytaodjnkjjmhecaagreatdoor", sum := "b502911d1b202c409e5994639f151092c038509ba8feeb9cd8e2b501e26a68a8", func := "biscotti/biscottilaw21.OrmapPlays", spec := "ormapPlays", inPlace := ["internal/bytealg.IndexByteString", "internal/reflectlite.ValueOf", "internal/reflectlite.Swapper", "(internal/reflectlite.Value).Len"], unfollowed := true, recurses := true, named := ["internal/strconv.uint64pow10", "math/bits.deBruijn32tab", "math/bits.deBruijn64tab"], plainKeys := false, apart := false, laid := [("math/bits.deBruijn32tab", laid_math_bits_deBruijn32tab), ("math/bits.deBruijn64tab", laid_math_bits_deBruijn64tab), ("internal/strconv.uint64pow10", laid_internal_strconv_uint64pow10)] }
def OrmapPlaysSaid : Prop := ormapPlaysRow.holds Tryz.pinned (OpenSpec.ofChange ormapPlaysSpec)

/-- ITS FALSE NEIGHBOUR: 'it returns false'. Refute it at one input. -/
def ormapPlaysWrong : ChangeSpec := { name := "ormapPlays", fn := fun _ => fun
  | [d] => { results := [.lit (.bool false)], args := [d] }
  | _ => none }
def OrmapPlaysWrongFalsely : Prop := ormapPlaysRow.holds Tryz.pinned (OpenSpec.ofChange ormapPlaysWrong)

/-- 'biscottilaw21.OrmapKeys': WHATEVER THE INPUT: true; the input reads as it did. -/
def ormapKeysSpec : ChangeSpec := { name := "ormapKeys", fn := fun _ => fun
  | [d1, d2, d3] => { results := [.lit (.bool true)], args := [d1, d2, d3] }
  | _ => none }
def ormapKeysRow : OpenClaim := { program := "ytaodjnkjjmhecaagreatdoor", sum := "b502911d1b202c409e5994639f151092c038509ba8feeb9cd8e2b501e26a68a8", func := "biscotti/biscottilaw21.OrmapKeys", spec := "ormapKeys", inPlace := ["internal/bytealg.IndexByteString"], unfollowed := true, recurses := true, named := ["internal/strconv.uint64pow10", "math/bits.deBruijn32tab", "math/bits.deBruijn64tab"], plainKeys := false, apart := false, laid := [("math/bits.deBruijn32tab", laid_math_bits_deBruijn32tab), ("math/bits.deBruijn64tab", laid_math_bits_deBruijn64tab), ("internal/strconv.uint64pow10", laid_internal_strconv_uint64pow10)] }
def OrmapKeysSaid : Prop := ormapKeysRow.holds Tryz.pinned (OpenSpec.ofChange ormapKeysSpec)

/-- ITS FALSE NEIGHBOUR: 'it returns false'. Refute it at one input. -/
def ormapKeysWrong : ChangeSpec := { name := "ormapKeys", fn := fun _ => fun
  | [d1, d2, d3] => { results := [.lit (.bool false)], args := [d1, d2, d3] }
  | _ => none }
def OrmapKeysWrongFalsely : Prop := ormapKeysRow.holds Tryz.pinned (OpenSpec.ofChange ormapKeysWrong)

/-- 'biscottilaw21.OrmapTurned': WHATEVER THE INPUT: true; the input reads as it did. -/
def ormapTurnedSpec : ChangeSpec := { name := "ormapTurned", fn := fun _ => fun
  | [d1, d2, d3] => { results := [.lit (.bool true)], args := [d1, d2, d3] }
  | _ => none }
def ormapTurnedRow : OpenClaim := { program := "ytaodjnkjjmhecaagreatdoor", sum := "b502911d1b202c409e5994639f151092c038509ba8feeb9cd8e2b501e26a68a8", func := "biscotti/biscottilaw21.OrmapTurned", spec := "ormapTurned", inPlace := ["internal/bytealg.IndexByteString", "internal/reflectlite.ValueOf", "internal/reflectlite.Swapper", "(internal/reflectlite.Value).Len"], unfollowed := true, recurses := true, named := ["internal/strconv.uint64pow10", "math/bits.deBruijn32tab", "math/bits.deBruijn64tab"], plainKeys := false, apart := false, laid := [("math/bits.deBruijn32tab", laid_math_bits_deBruijn32tab), ("math/bits.deBruijn64tab", laid_math_bits_deBruijn64tab), ("internal/strconv.uint64pow10", laid_internal_strconv_uint64pow10)] }
def OrmapTurnedSaid : Prop := ormapTurnedRow.holds Tryz.pinned (OpenSpec.ofChange ormapTurnedSpec)

/-- ITS FALSE NEIGHBOUR: 'it returns false'. Refute it at one input. -/
def ormapTurnedWrong : ChangeSpec := { name := "ormapTurned", fn := fun _ => fun
  | [d1, d2, d3] => { results := [.lit (.bool false)], args := [d1, d2, d3] }
  | _ => none }
def OrmapTurnedWrongFalsely : Prop := ormapTurnedRow.holds Tryz.pinned (OpenSpec.ofChange ormapTurnedWrong)

/-- 'biscottilaw21.OrmapTwice': WHATEVER THE INPUT: true; the input reads as it did. -/
def ormapTwiceSpec : ChangeSpec := { name := "ormapTwice", fn := fun _ => fun
  | [d] => { results := [.lit (.bool true)], args := [d] }
  | _ => none }
def ormapTwiceRow : OpenClaim := { program := "ytaodjnkjjmhecaagreatdoor", sum := "b502911d1b202c409e5994639f151092c038509ba8feeb9cd8e2b501e26a68a8", func := "biscotti/biscottilaw21.OrmapTwice", spec := "ormapTwice", inPlace := ["internal/bytealg.IndexByteString", "internal/reflectlite.ValueOf", "internal/reflectlite.Swapper", "(internal/reflectlite.Value).Len"], unfollowed := true, recurses := true, named := ["internal/strconv.uint64pow10", "math/bits.deBruijn32tab", "math/bits.deBruijn64tab"], plainKeys := false, apart := false, laid := [("math/bits.deBruijn32tab", laid_math_bits_deBruijn32tab), ("math/bits.deBruijn64tab", laid_math_bits_deBruijn64tab), ("internal/strconv.uint64pow10", laid_internal_strconv_uint64pow10)] }
def OrmapTwiceSaid : Prop := ormapTwiceRow.holds Tryz.pinned (OpenSpec.ofChange ormapTwiceSpec)

/-- ITS FALSE NEIGHBOUR: 'it returns false'. Refute it at one input. -/
def ormapTwiceWrong : ChangeSpec := { name := "ormapTwice", fn := fun _ => fun
  | [d] => { results := [.lit (.bool false)], args := [d] }
  | _ => none }
def OrmapTwiceWrongFalsely : Prop := ormapTwiceRow.holds Tryz.pinned (OpenSpec.ofChange ormapTwiceWrong)

/-- 'biscottilaw21.OrmapNils': WHATEVER THE INPUT: true; the input reads as it did. -/
def ormapNilsSpec : ChangeSpec := { name := "ormapNils", fn := fun _ => fun
  | [d] => { results := [.lit (.bool true)], args := [d] }
  | _ => none }
def ormapNilsRow : OpenClaim := { program := "ytaodjnkjjmhecaagreatdoor", sum := "b502911d1b202c409e5994639f151092c038509ba8feeb9cd8e2b501e26a68a8", func := "biscotti/biscottilaw21.OrmapNils", spec := "ormapNils", inPlace := ["internal/bytealg.IndexByteString", "internal/reflectlite.ValueOf", "internal/reflectlite.Swapper", "(internal/reflectlite.Value).Len"], unfollowed := true, recurses := true, named := ["internal/strconv.uint64pow10", "math/bits.deBruijn32tab", "math/bits.deBruijn64tab"], plainKeys := false, apart := false, laid := [("math/bits.deBruijn32tab", laid_math_bits_deBruijn32tab), ("math/bits.deBruijn64tab", laid_math_bits_deBruijn64tab), ("internal/strconv.uint64pow10", laid_internal_strconv_uint64pow10)] }
def OrmapNilsSaid : Prop := ormapNilsRow.holds Tryz.pinned (OpenSpec.ofChange ormapNilsSpec)

/-- ITS FALSE NEIGHBOUR: 'it returns false'. Refute it at one input. -/
def ormapNilsWrong : ChangeSpec := { name := "ormapNils", fn := fun _ => fun
  | [d] => { results := [.lit (.bool false)], args := [d] }
  | _ => none }
def OrmapNilsWrongFalsely : Prop := ormapNilsRow.holds Tryz.pinned (OpenSpec.ofChange ormapNilsWrong)

/-- 'biscottilaw21.OrmapLoads': WHATEVER THE INPUT: true; the input reads as it did. -/
def ormapLoadsSpec : ChangeSpec := { name := "ormapLoads", fn := fun _ => fun
  | [d] => { results := [.lit (.bool true)], args := [d] }
  | _ => none }
def ormapLoadsRow : OpenClaim := { program := "ytaodjnkjjmhecaagreatdoor", sum := "b502911d1b202c409e5994639f151092c038509ba8feeb9cd8e2b501e26a68a8", func := "biscotti/biscottilaw21.OrmapLoads", spec := "ormapLoads", inPlace := ["internal/bytealg.IndexByteString", "internal/reflectlite.ValueOf", "internal/reflectlite.Swapper", "(internal/reflectlite.Value).Len"], unfollowed := true, recurses := true, named := ["internal/strconv.uint64pow10", "math/bits.deBruijn32tab", "math/bits.deBruijn64tab"], plainKeys := false, apart := false, laid := [("math/bits.deBruijn32tab", laid_math_bits_deBruijn32tab), ("math/bits.deBruijn64tab", laid_math_bits_deBruijn64tab), ("internal/strconv.uint64pow10", laid_internal_strconv_uint64pow10)] }
def OrmapLoadsSaid : Prop := ormapLoadsRow.holds Tryz.pinned (OpenSpec.ofChange ormapLoadsSpec)

/-- ITS FALSE NEIGHBOUR: 'it returns false'. Refute it at one input. -/
def ormapLoadsWrong : ChangeSpec := { name := "ormapLoads", fn := fun _ => fun
  | [d] => { results := [.lit (.bool false)], args := [d] }
  | _ => none }
def OrmapLoadsWrongFalsely : Prop := ormapLoadsRow.holds Tryz.pinned (OpenSpec.ofChange ormapLoadsWrong)

/-- 'biscottilaw21.OrmapBack': WHATEVER THE INPUT: true; the input reads as it did. -/
def ormapBackSpec : ChangeSpec := { name := "ormapBack", fn := fun _ => fun
  | [d1, d2] => { results := [.lit (.bool true)], args := [d1, d2] }
  | _ => none }
def ormapBackRow : OpenClaim := { program := "ytaodjnkjjmhecaagreatdoor", sum := "b502911d1b202c409e5994639f151092c038509ba8feeb9cd8e2b501e26a68a8", func := "biscotti/biscottilaw21.OrmapBack", spec := "ormapBack", inPlace := ["internal/bytealg.IndexByteString", "internal/reflectlite.ValueOf", "internal/reflectlite.Swapper", "(internal/reflectlite.Value).Len"], unfollowed := true, recurses := true, named := ["internal/strconv.uint64pow10", "math/bits.deBruijn32tab", "math/bits.deBruijn64tab"], plainKeys := false, apart := false, laid := [("math/bits.deBruijn32tab", laid_math_bits_deBruijn32tab), ("math/bits.deBruijn64tab", laid_math_bits_deBruijn64tab), ("internal/strconv.uint64pow10", laid_internal_strconv_uint64pow10)] }
def OrmapBackSaid : Prop := ormapBackRow.holds Tryz.pinned (OpenSpec.ofChange ormapBackSpec)

/-- ITS FALSE NEIGHBOUR: 'it returns false'. Refute it at one input. -/
def ormapBackWrong : ChangeSpec := { name := "ormapBack", fn := fun _ => fun
  | [d1, d2] => { results := [.lit (.bool false)], args := [d1, d2] }
  | _ => none }
def OrmapBackWrongFalsely : Prop := ormapBackRow.holds Tryz.pinned (OpenSpec.ofChange ormapBackWrong)

/-- 'biscottilaw22.DeltaOf': WHATEVER THE INPUT: true; the input reads as it did. -/
def deltaOfSpec : ChangeSpec := { name := "deltaOf", fn := fun _ => fun
  | [d1, d2, d3] => { results := [.lit (.bool true)], args := [d1, d2, d3] }
  | _ => none }
def deltaOfRow : OpenClaim := { program := "ytaodjnkjjmhecaagreatdoor", sum := "b502911d1b202c409e5994639f151092c038509ba8feeb9cd8e2b501e26a68a8", func := "biscotti/biscottilaw22.DeltaOf", spec := "deltaOf", inPlace := ["internal/bytealg.IndexByteString"], unfollowed := true, recurses := true, named := ["internal/strconv.uint64pow10", "math/bits.deBruijn32tab", "math/bits.deBruijn64tab"], plainKeys := false, apart := false, laid := [("math/bits.deBruijn32tab", laid_math_bits_deBruijn32tab), ("math/bits.deBruijn64tab", laid_math_bits_deBruijn64tab), ("internal/strconv.uint64pow10", laid_internal_strconv_uint64pow10)] }
def DeltaOfSaid : Prop := deltaOfRow.holds Tryz.pinned (OpenSpec.ofChange deltaOfSpec)

/-- ITS FALSE NEIGHBOUR: 'it returns false'. Refute it at one input. -/
def deltaOfWrong : ChangeSpec := { name := "deltaOf", fn := fun _ => fun
  | [d1, d2, d3] => { results := [.lit (.bool false)], args := [d1, d2, d3] }
  | _ => none }
def DeltaOfWrongFalsely : Prop := deltaOfRow.holds Tryz.pinned (OpenSpec.ofChange deltaOfWrong)

/-- 'biscottilaw22.DeltaMerges': WHATEVER THE INPUT: true; the input reads as it did. -/
def deltaMergesSpec : ChangeSpec := { name := "deltaMerges", fn := fun _ => fun
  | [d1, d2] => { results := [.lit (.bool true)], args := [d1, d2] }
  | _ => none }
def deltaMergesRow : OpenClaim := { program := "ytaodjnkjjmhecaagreatdoor", sum := "b502911d1b202c409e5994639f151092c038509ba8feeb9cd8e2b501e26a68a8", func := "biscotti/biscottilaw22.DeltaMerges", spec := "deltaMerges", inPlace := ["internal/bytealg.IndexByteString", "internal/reflectlite.ValueOf", "internal/reflectlite.Swapper", "(internal/reflectlite.Value).Len"], unfollowed := true, recurses := true, named := ["internal/strconv.uint64pow10", "math/bits.deBruijn32tab", "math/bits.deBruijn64tab"], plainKeys := false, apart := false, laid := [("math/bits.deBruijn32tab", laid_math_bits_deBruijn32tab), ("math/bits.deBruijn64tab", laid_math_bits_deBruijn64tab), ("internal/strconv.uint64pow10", laid_internal_strconv_uint64pow10)] }
def DeltaMergesSaid : Prop := deltaMergesRow.holds Tryz.pinned (OpenSpec.ofChange deltaMergesSpec)

/-- ITS FALSE NEIGHBOUR: 'it returns false'. Refute it at one input. -/
def deltaMergesWrong : ChangeSpec := { name := "deltaMerges", fn := fun _ => fun
  | [d1, d2] => { results := [.lit (.bool false)], args := [d1, d2] }
  | _ => none }
def DeltaMergesWrongFalsely : Prop := deltaMergesRow.holds Tryz.pinned (OpenSpec.ofChange deltaMergesWrong)

/-- 'biscottilaw22.DeltaCovers': WHATEVER THE INPUT: true; the input reads as it did. -/
def deltaCoversSpec : ChangeSpec := { name := "deltaCovers", fn := fun _ => fun
  | [d1, d2] => { results := [.lit (.bool true)], args := [d1, d2] }
  | _ => none }
def deltaCoversRow : OpenClaim := { program := "ytaodjnkjjmhecaagreatdoor", sum := "b502911d1b202c409e5994639f151092c038509ba8feeb9cd8e2b501e26a68a8", func := "biscotti/biscottilaw22.DeltaCovers", spec := "deltaCovers", inPlace := ["internal/bytealg.IndexByteString"], unfollowed := true, recurses := true, named := ["internal/strconv.uint64pow10", "math/bits.deBruijn32tab", "math/bits.deBruijn64tab"], plainKeys := false, apart := false, laid := [("math/bits.deBruijn32tab", laid_math_bits_deBruijn32tab), ("math/bits.deBruijn64tab", laid_math_bits_deBruijn64tab), ("internal/strconv.uint64pow10", laid_internal_strconv_uint64pow10)] }
def DeltaCoversSaid : Prop := deltaCoversRow.holds Tryz.pinned (OpenSpec.ofChange deltaCoversSpec)

/-- ITS FALSE NEIGHBOUR: 'it returns false'. Refute it at one input. -/
def deltaCoversWrong : ChangeSpec := { name := "deltaCovers", fn := fun _ => fun
  | [d1, d2] => { results := [.lit (.bool false)], args := [d1, d2] }
  | _ => none }
def DeltaCoversWrongFalsely : Prop := deltaCoversRow.holds Tryz.pinned (OpenSpec.ofChange deltaCoversWrong)

/-- 'biscottilaw22.DeltaJoins': WHATEVER THE INPUT: true; the input reads as it did. -/
def deltaJoinsSpec : ChangeSpec := { name := "deltaJoins", fn := fun _ => fun
  | [d1, d2, d3] => { results := [.lit (.bool true)], args := [d1, d2, d3] }
  | _ => none }
def deltaJoinsRow : OpenClaim := { program := "ytaodjnkjjmhecaagreatdoor", sum := "b502911d1b202c409e5994639f151092c038509ba8feeb9cd8e2b501e26a68a8", func := "biscotti/biscottilaw22.DeltaJoins", spec := "deltaJoins", inPlace := ["internal/bytealg.IndexByteString", "internal/reflectlite.ValueOf", "internal/reflectlite.Swapper", "(internal/reflectlite.Value).Len"], unfollowed := true, recurses := true, named := ["internal/strconv.uint64pow10", "math/bits.deBruijn32tab", "math/bits.deBruijn64tab"], plainKeys := false, apart := false, laid := [("math/bits.deBruijn32tab", laid_math_bits_deBruijn32tab), ("math/bits.deBruijn64tab", laid_math_bits_deBruijn64tab), ("internal/strconv.uint64pow10", laid_internal_strconv_uint64pow10)] }
def DeltaJoinsSaid : Prop := deltaJoinsRow.holds Tryz.pinned (OpenSpec.ofChange deltaJoinsSpec)

/-- ITS FALSE NEIGHBOUR: 'it returns false'. Refute it at one input. -/
def deltaJoinsWrong : ChangeSpec := { name := "deltaJoins", fn := fun _ => fun
  | [d1, d2, d3] => { results := [.lit (.bool false)], args := [d1, d2, d3] }
  | _ => none }
def DeltaJoinsWrongFalsely : Prop := deltaJoinsRow.holds Tryz.pinned (OpenSpec.ofChange deltaJoinsWrong)

/-- 'biscottilaw22.DeltaNils': WHATEVER THE INPUT: true; the input reads as it did. -/
def deltaNilsSpec : ChangeSpec := { name := "deltaNils", fn := fun _ => fun
  | [d1, d2] => { results := [.lit (.bool true)], args := [d1, d2] }
  | _ => none }
def deltaNilsRow : OpenClaim := { program := "ytaodjnkjjmhecaagreatdoor", sum := "b502911d1b202c409e5994639f151092c038509ba8feeb9cd8e2b501e26a68a8", func := "biscotti/biscottilaw22.DeltaNils", spec := "deltaNils", inPlace := ["internal/bytealg.IndexByteString"], unfollowed := true, recurses := true, named := ["internal/strconv.uint64pow10", "math/bits.deBruijn32tab", "math/bits.deBruijn64tab"], plainKeys := false, apart := false, laid := [("math/bits.deBruijn32tab", laid_math_bits_deBruijn32tab), ("math/bits.deBruijn64tab", laid_math_bits_deBruijn64tab), ("internal/strconv.uint64pow10", laid_internal_strconv_uint64pow10)] }
def DeltaNilsSaid : Prop := deltaNilsRow.holds Tryz.pinned (OpenSpec.ofChange deltaNilsSpec)

/-- ITS FALSE NEIGHBOUR: 'it returns false'. Refute it at one input. -/
def deltaNilsWrong : ChangeSpec := { name := "deltaNils", fn := fun _ => fun
  | [d1, d2] => { results := [.lit (.bool false)], args := [d1, d2] }
  | _ => none }
def DeltaNilsWrongFalsely : Prop := deltaNilsRow.holds Tryz.pinned (OpenSpec.ofChange deltaNilsWrong)

/- THE SECOND FORM. 'bulk': how many values and letters a reading holds, each counted each time it is reached (what is shared counts as often as it is met; a slice's spare places count too). A statement '..UptoSaid' is the law's where the arguments, and the package variables that the reading takes, are together of bulk at most 1048576: NARROWER than '..Said'. Prove '..Said' where nothing that the law and all that it calls make is longer than what came in: it says more and counts as full. Else prove '..UptoSaid'. A law counts once. -/
mutual
def uptoBulk {H : Type} : DataW H → Nat
  | .lit (.string bytes) => bytes.length + 1
  | .lit _ => 1
  | .nil => 1
  | .ptr d => uptoBulk d + 1
  | .slice elems spare => uptoBulkAll elems + uptoBulkAll spare + 1
  | .agg parts => uptoBulkAll parts + 1
  | .iface _ d => uptoBulk d + 1
  | .map entries => uptoBulkEntries entries + 1
  | .held _ => 1
def uptoBulkAll {H : Type} : List (DataW H) → Nat
  | [] => 0
  | d :: r => uptoBulk d + uptoBulkAll r
def uptoBulkEntries {H : Type} : List (Lit × DataW H) → Nat
  | [] => 0
  | x :: r => uptoBulkEntry x + uptoBulkEntries r
def uptoBulkEntry {H : Type} : Lit × DataW H → Nat
  | (.string bytes, d) => bytes.length + uptoBulk d + 1
  | (_, d) => uptoBulk d + 1
 end
def uptoSmall : (H : Type) → List (DataW H) → Bool := fun _ ds => decide (uptoBulkAll ds ≤ 1048576)
def OpenSpec.upto (s : _root_.Go.ChangeSpec) : _root_.Go.OpenSpec := { _root_.Go.OpenSpec.ofChange s with cond := some uptoSmall }

/-- 'biscottilaw21.OrmapPlays', WHERE WHAT IT READS IS OF BULK AT MOST 1048576: true; the input reads as it did. -/
def ormapPlaysUptoRow : OpenClaim := { program := "ytaodjnkjjmhecaagreatdoor", sum := "b502911d1b202c409e5994639f151092c038509ba8feeb9cd8e2b501e26a68a8", func := "biscotti/biscottilaw21.OrmapPlays", spec := "ormapPlays", inPlace := ["internal/bytealg.IndexByteString", "internal/reflectlite.ValueOf", "internal/reflectlite.Swapper", "(internal/reflectlite.Value).Len"], unfollowed := true, recurses := true, named := ["internal/strconv.uint64pow10", "math/bits.deBruijn32tab", "math/bits.deBruijn64tab"], plainKeys := false, apart := false, laid := [("math/bits.deBruijn32tab", laid_math_bits_deBruijn32tab), ("math/bits.deBruijn64tab", laid_math_bits_deBruijn64tab), ("internal/strconv.uint64pow10", laid_internal_strconv_uint64pow10)], narrowed := true }
def OrmapPlaysUptoSaid : Prop := ormapPlaysUptoRow.holds Tryz.pinned (OpenSpec.upto ormapPlaysSpec)

/-- 'biscottilaw21.OrmapKeys', WHERE WHAT IT READS IS OF BULK AT MOST 1048576: true; the input reads as it did. -/
def ormapKeysUptoRow : OpenClaim := { program := "ytaodjnkjjmhecaagreatdoor", sum := "b502911d1b202c409e5994639f151092c038509ba8feeb9cd8e2b501e26a68a8", func := "biscotti/biscottilaw21.OrmapKeys", spec := "ormapKeys", inPlace := ["internal/bytealg.IndexByteString"], unfollowed := true, recurses := true, named := ["internal/strconv.uint64pow10", "math/bits.deBruijn32tab", "math/bits.deBruijn64tab"], plainKeys := false, apart := false, laid := [("math/bits.deBruijn32tab", laid_math_bits_deBruijn32tab), ("math/bits.deBruijn64tab", laid_math_bits_deBruijn64tab), ("internal/strconv.uint64pow10", laid_internal_strconv_uint64pow10)], narrowed := true }
def OrmapKeysUptoSaid : Prop := ormapKeysUptoRow.holds Tryz.pinned (OpenSpec.upto ormapKeysSpec)

/-- 'biscottilaw21.OrmapTurned', WHERE WHAT IT READS IS OF BULK AT MOST 1048576: true; the input reads as it did. -/
def ormapTurnedUptoRow : OpenClaim := { program := "ytaodjnkjjmhecaagreatdoor", sum := "b502911d1b202c409e5994639f151092c038509ba8feeb9cd8e2b501e26a68a8", func := "biscotti/biscottilaw21.OrmapTurned", spec := "ormapTurned", inPlace := ["internal/bytealg.IndexByteString", "internal/reflectlite.ValueOf", "internal/reflectlite.Swapper", "(internal/reflectlite.Value).Len"], unfollowed := true, recurses := true, named := ["internal/strconv.uint64pow10", "math/bits.deBruijn32tab", "math/bits.deBruijn64tab"], plainKeys := false, apart := false, laid := [("math/bits.deBruijn32tab", laid_math_bits_deBruijn32tab), ("math/bits.deBruijn64tab", laid_math_bits_deBruijn64tab), ("internal/strconv.uint64pow10", laid_internal_strconv_uint64pow10)], narrowed := true }
def OrmapTurnedUptoSaid : Prop := ormapTurnedUptoRow.holds Tryz.pinned (OpenSpec.upto ormapTurnedSpec)

/-- 'biscottilaw21.OrmapTwice', WHERE WHAT IT READS IS OF BULK AT MOST 1048576: true; the input reads as it did. -/
def ormapTwiceUptoRow : OpenClaim := { program := "ytaodjnkjjmhecaagreatdoor", sum := "b502911d1b202c409e5994639f151092c038509ba8feeb9cd8e2b501e26a68a8", func := "biscotti/biscottilaw21.OrmapTwice", spec := "ormapTwice", inPlace := ["internal/bytealg.IndexByteString", "internal/reflectlite.ValueOf", "internal/reflectlite.Swapper", "(internal/reflectlite.Value).Len"], unfollowed := true, recurses := true, named := ["internal/strconv.uint64pow10", "math/bits.deBruijn32tab", "math/bits.deBruijn64tab"], plainKeys := false, apart := false, laid := [("math/bits.deBruijn32tab", laid_math_bits_deBruijn32tab), ("math/bits.deBruijn64tab", laid_math_bits_deBruijn64tab), ("internal/strconv.uint64pow10", laid_internal_strconv_uint64pow10)], narrowed := true }
def OrmapTwiceUptoSaid : Prop := ormapTwiceUptoRow.holds Tryz.pinned (OpenSpec.upto ormapTwiceSpec)

/-- 'biscottilaw21.OrmapNils', WHERE WHAT IT READS IS OF BULK AT MOST 1048576: true; the input reads as it did. -/
def ormapNilsUptoRow : OpenClaim := { program := "ytaodjnkjjmhecaagreatdoor", sum := "b502911d1b202c409e5994639f151092c038509ba8feeb9cd8e2b501e26a68a8", func := "biscotti/biscottilaw21.OrmapNils", spec := "ormapNils", inPlace := ["internal/bytealg.IndexByteString", "internal/reflectlite.ValueOf", "internal/reflectlite.Swapper", "(internal/reflectlite.Value).Len"], unfollowed := true, recurses := true, named := ["internal/strconv.uint64pow10", "math/bits.deBruijn32tab", "math/bits.deBruijn64tab"], plainKeys := false, apart := false, laid := [("math/bits.deBruijn32tab", laid_math_bits_deBruijn32tab), ("math/bits.deBruijn64tab", laid_math_bits_deBruijn64tab), ("internal/strconv.uint64pow10", laid_internal_strconv_uint64pow10)], narrowed := true }
def OrmapNilsUptoSaid : Prop := ormapNilsUptoRow.holds Tryz.pinned (OpenSpec.upto ormapNilsSpec)

/-- 'biscottilaw21.OrmapLoads', WHERE WHAT IT READS IS OF BULK AT MOST 1048576: true; the input reads as it did. -/
def ormapLoadsUptoRow : OpenClaim := { program := "ytaodjnkjjmhecaagreatdoor", sum := "b502911d1b202c409e5994639f151092c038509ba8feeb9cd8e2b501e26a68a8", func := "biscotti/biscottilaw21.OrmapLoads", spec := "ormapLoads", inPlace := ["internal/bytealg.IndexByteString", "internal/reflectlite.ValueOf", "internal/reflectlite.Swapper", "(internal/reflectlite.Value).Len"], unfollowed := true, recurses := true, named := ["internal/strconv.uint64pow10", "math/bits.deBruijn32tab", "math/bits.deBruijn64tab"], plainKeys := false, apart := false, laid := [("math/bits.deBruijn32tab", laid_math_bits_deBruijn32tab), ("math/bits.deBruijn64tab", laid_math_bits_deBruijn64tab), ("internal/strconv.uint64pow10", laid_internal_strconv_uint64pow10)], narrowed := true }
def OrmapLoadsUptoSaid : Prop := ormapLoadsUptoRow.holds Tryz.pinned (OpenSpec.upto ormapLoadsSpec)

/-- 'biscottilaw21.OrmapBack', WHERE WHAT IT READS IS OF BULK AT MOST 1048576: true; the input reads as it did. -/
def ormapBackUptoRow : OpenClaim := { program := "ytaodjnkjjmhecaagreatdoor", sum := "b502911d1b202c409e5994639f151092c038509ba8feeb9cd8e2b501e26a68a8", func := "biscotti/biscottilaw21.OrmapBack", spec := "ormapBack", inPlace := ["internal/bytealg.IndexByteString", "internal/reflectlite.ValueOf", "internal/reflectlite.Swapper", "(internal/reflectlite.Value).Len"], unfollowed := true, recurses := true, named := ["internal/strconv.uint64pow10", "math/bits.deBruijn32tab", "math/bits.deBruijn64tab"], plainKeys := false, apart := false, laid := [("math/bits.deBruijn32tab", laid_math_bits_deBruijn32tab), ("math/bits.deBruijn64tab", laid_math_bits_deBruijn64tab), ("internal/strconv.uint64pow10", laid_internal_strconv_uint64pow10)], narrowed := true }
def OrmapBackUptoSaid : Prop := ormapBackUptoRow.holds Tryz.pinned (OpenSpec.upto ormapBackSpec)

/-- 'biscottilaw22.DeltaOf', WHERE WHAT IT READS IS OF BULK AT MOST 1048576: true; the input reads as it did. -/
def deltaOfUptoRow : OpenClaim := { program := "ytaodjnkjjmhecaagreatdoor", sum := "b502911d1b202c409e5994639f151092c038509ba8feeb9cd8e2b501e26a68a8", func := "biscotti/biscottilaw22.DeltaOf", spec := "deltaOf", inPlace := ["internal/bytealg.IndexByteString"], unfollowed := true, recurses := true, named := ["internal/strconv.uint64pow10", "math/bits.deBruijn32tab", "math/bits.deBruijn64tab"], plainKeys := false, apart := false, laid := [("math/bits.deBruijn32tab", laid_math_bits_deBruijn32tab), ("math/bits.deBruijn64tab", laid_math_bits_deBruijn64tab), ("internal/strconv.uint64pow10", laid_internal_strconv_uint64pow10)], narrowed := true }
def DeltaOfUptoSaid : Prop := deltaOfUptoRow.holds Tryz.pinned (OpenSpec.upto deltaOfSpec)

/-- 'biscottilaw22.DeltaMerges', WHERE WHAT IT READS IS OF BULK AT MOST 1048576: true; the input reads as it did. -/
def deltaMergesUptoRow : OpenClaim := { program := "ytaodjnkjjmhecaagreatdoor", sum := "b502911d1b202c409e5994639f151092c038509ba8feeb9cd8e2b501e26a68a8", func := "biscotti/biscottilaw22.DeltaMerges", spec := "deltaMerges", inPlace := ["internal/bytealg.IndexByteString", "internal/reflectlite.ValueOf", "internal/reflectlite.Swapper", "(internal/reflectlite.Value).Len"], unfollowed := true, recurses := true, named := ["internal/strconv.uint64pow10", "math/bits.deBruijn32tab", "math/bits.deBruijn64tab"], plainKeys := false, apart := false, laid := [("math/bits.deBruijn32tab", laid_math_bits_deBruijn32tab), ("math/bits.deBruijn64tab", laid_math_bits_deBruijn64tab), ("internal/strconv.uint64pow10", laid_internal_strconv_uint64pow10)], narrowed := true }
def DeltaMergesUptoSaid : Prop := deltaMergesUptoRow.holds Tryz.pinned (OpenSpec.upto deltaMergesSpec)

/-- 'biscottilaw22.DeltaCovers', WHERE WHAT IT READS IS OF BULK AT MOST 1048576: true; the input reads as it did. -/
def deltaCoversUptoRow : OpenClaim := { program := "ytaodjnkjjmhecaagreatdoor", sum := "b502911d1b202c409e5994639f151092c038509ba8feeb9cd8e2b501e26a68a8", func := "biscotti/biscottilaw22.DeltaCovers", spec := "deltaCovers", inPlace := ["internal/bytealg.IndexByteString"], unfollowed := true, recurses := true, named := ["internal/strconv.uint64pow10", "math/bits.deBruijn32tab", "math/bits.deBruijn64tab"], plainKeys := false, apart := false, laid := [("math/bits.deBruijn32tab", laid_math_bits_deBruijn32tab), ("math/bits.deBruijn64tab", laid_math_bits_deBruijn64tab), ("internal/strconv.uint64pow10", laid_internal_strconv_uint64pow10)], narrowed := true }
def DeltaCoversUptoSaid : Prop := deltaCoversUptoRow.holds Tryz.pinned (OpenSpec.upto deltaCoversSpec)

/-- 'biscottilaw22.DeltaJoins', WHERE WHAT IT READS IS OF BULK AT MOST 1048576: true; the input reads as it did. -/
def deltaJoinsUptoRow : OpenClaim := { program := "ytaodjnkjjmhecaagreatdoor", sum := "b502911d1b202c409e5994639f151092c038509ba8feeb9cd8e2b501e26a68a8", func := "biscotti/biscottilaw22.DeltaJoins", spec := "deltaJoins", inPlace := ["internal/bytealg.IndexByteString", "internal/reflectlite.ValueOf", "internal/reflectlite.Swapper", "(internal/reflectlite.Value).Len"], unfollowed := true, recurses := true, named := ["internal/strconv.uint64pow10", "math/bits.deBruijn32tab", "math/bits.deBruijn64tab"], plainKeys := false, apart := false, laid := [("math/bits.deBruijn32tab", laid_math_bits_deBruijn32tab), ("math/bits.deBruijn64tab", laid_math_bits_deBruijn64tab), ("internal/strconv.uint64pow10", laid_internal_strconv_uint64pow10)], narrowed := true }
def DeltaJoinsUptoSaid : Prop := deltaJoinsUptoRow.holds Tryz.pinned (OpenSpec.upto deltaJoinsSpec)

/-- 'biscottilaw22.DeltaNils', WHERE WHAT IT READS IS OF BULK AT MOST 1048576: true; the input reads as it did. -/
def deltaNilsUptoRow : OpenClaim := { program := "ytaodjnkjjmhecaagreatdoor", sum := "b502911d1b202c409e5994639f151092c038509ba8feeb9cd8e2b501e26a68a8", func := "biscotti/biscottilaw22.DeltaNils", spec := "deltaNils", inPlace := ["internal/bytealg.IndexByteString"], unfollowed := true, recurses := true, named := ["internal/strconv.uint64pow10", "math/bits.deBruijn32tab", "math/bits.deBruijn64tab"], plainKeys := false, apart := false, laid := [("math/bits.deBruijn32tab", laid_math_bits_deBruijn32tab), ("math/bits.deBruijn64tab", laid_math_bits_deBruijn64tab), ("internal/strconv.uint64pow10", laid_internal_strconv_uint64pow10)], narrowed := true }
def DeltaNilsUptoSaid : Prop := deltaNilsUptoRow.holds Tryz.pinned (OpenSpec.upto deltaNilsSpec)

end Rows
end Go.Proofs.YtaodjnkjjmhecaaGreatDoor
