/- Contracts of the reference of layer 20: which events may be. -/
import Derived.Test.YtelgaglnmcggkaaGreatDoorEventRef
import Derived.Test.YtelgaglnmcggkaaGreatDoorLibAI
import Derived.Test.YtelgaglnmcggkaaGreatDoorLibAO
import Derived.Deep.RegionHeld3
import Derived.Deep.RegionLaw
namespace Go.Proofs.YtelgaglnmcggkaaGreatDoor
open Go.RowKit
set_option linter.unusedVariables false

/-- An event in its box, and the dots that it is over. -/
structure StR (w : World) (e : EventN) (a : Option Addr) (n c : Nat) (v : World) : Prop where
  o : ObjAt v w.heap.size [.int .i64 e.dot.dev, .int .i64 e.dot.inc, .int .i64 e.dot.seq, .int .i64 e.stamp.wall, .int .i64 e.stamp.count, .int .i64 e.stamp.dev, .int .i64 e.kind, .string (str e.item.name), .string (str e.item.dom), .string (str e.item.path), .string (str e.item.val), .bool e.item.host, .bool e.item.sec, .bool e.item.http, .bool e.item.pers, .int .i64 e.item.exp, .int .i64 e.item.made, .int .i64 e.item.used, .slice a n c]
  row : RowOf encD 3 v a n c e.over
  hb : Below w.heap.size w v
theorem StR.below {w v v' : World} {e : EventN} {a : Option Addr} {n c : Nat} (h : StR w e a n c v) (hx : Below v.heap.size v v') : StR w e a n c v' :=
  ⟨h.o.below hx h.o.lt, h.row.below hx, h.hb.trans (hx.mono h.hb.size)⟩

end Go.Proofs.YtelgaglnmcggkaaGreatDoor
