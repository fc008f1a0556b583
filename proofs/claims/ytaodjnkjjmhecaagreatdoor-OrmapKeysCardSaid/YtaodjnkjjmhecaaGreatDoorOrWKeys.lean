/- Contracts and plain words that the laws' proofs stand on. -/
import Derived.Test.YtaodjnkjjmhecaaGreatDoorOrLaw11
namespace Go.Proofs.YtaodjnkjjmhecaaGreatDoor
open Go.RowKit
set_option linter.unusedVariables false
theorem ormapKeys_walk (a : Option Addr) (n c : Nat) (Q : List EvR) (x : ItemL) (d : DotN) (w : World) (hr : RowOf encE 19 w a n c Q) (hok : ∀ x ∈ Q, OkR w x) (h1 : x.name.length ≤ maxLen) (h2 : x.dom.length ≤ maxLen) (h3 : x.path.length ≤ maxLen) (hf : FitD d) (hTb : OTb w) :
    Calls Tryz.prog 4 #[.slice a n c, .agg #[.string (str x.name), .string (str x.dom), .string (str x.path)], .agg #[.int .i64 d.dev, .int .i64 d.inc, .int .i64 d.seq]] w fun en w' => en = .returned (.bool true) ∧ Below w.heap.size w w' :=
  keysW a n c Q x d w hr (fun r h => (hok r h).1) (fun r h => (hok r h).2.1) ⟨h1, h2, h3⟩ ⟨h1, h2, h3⟩ hf hTb
end Go.Proofs.YtaodjnkjjmhecaaGreatDoor
