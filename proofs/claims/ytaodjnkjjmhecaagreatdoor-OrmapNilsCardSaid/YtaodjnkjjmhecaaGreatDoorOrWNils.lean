/- Contracts and plain words that the laws' proofs stand on. -/
import Derived.Test.YtaodjnkjjmhecaaGreatDoorOrLaw8
namespace Go.Proofs.YtaodjnkjjmhecaaGreatDoor
open Go.RowKit
set_option linter.unusedVariables false
theorem ormapNils_walk (e : EventN) (a : Option Addr) (n c : Nat) (w : World) (hr : RowOf encD 3 w a n c e.over) (h1 : e.item.name.length ≤ maxLen) (h2 : e.item.dom.length ≤ maxLen) (h3 : e.item.path.length ≤ maxLen) (h4 : e.item.val.length ≤ maxLen) (hF : FitD e.dot) (hTb : OTb w) :
    Calls Tryz.prog 7 #[.agg #[.int .i64 e.dot.dev, .int .i64 e.dot.inc, .int .i64 e.dot.seq, .int .i64 e.stamp.wall, .int .i64 e.stamp.count, .int .i64 e.stamp.dev, .int .i64 e.kind, .string (str e.item.name), .string (str e.item.dom), .string (str e.item.path), .string (str e.item.val), .bool e.item.host, .bool e.item.sec, .bool e.item.http, .bool e.item.pers, .int .i64 e.item.exp, .int .i64 e.item.made, .int .i64 e.item.used, .slice a n c]] w fun en w' => en = .returned (.bool true) ∧ Below w.heap.size w w' :=
  by
  obtain rfl := hr.leq
  exact nilsW ⟨e, a, c⟩ _ rfl w hr ⟨h1, h2, h3, h4⟩ hF ⟨h1, h2, h3⟩ hTb
end Go.Proofs.YtaodjnkjjmhecaaGreatDoor
