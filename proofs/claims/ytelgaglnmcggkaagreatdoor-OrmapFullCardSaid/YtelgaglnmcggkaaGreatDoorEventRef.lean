/- Contracts of the reference of layer 20: light events, the same ones. -/
import Derived.Test.YtelgaglnmcggkaaGreatDoorLibAP
import Derived.Test.YtelgaglnmcggkaaGreatDoorDotRef2
namespace Go.Proofs.YtelgaglnmcggkaaGreatDoor
open Go.RowKit
set_option linter.unusedVariables false

theorem objsE2 (w : World) (A B : Array Value) (a b : TypeId) : ObjAt ((w.alloc (.cells A a)).alloc (.cells B b)) w.heap.size A.toList ∧ ObjAt ((w.alloc (.cells A a)).alloc (.cells B b)) (w.heap.size + 1) B.toList ∧ Below w.heap.size w ((w.alloc (.cells A a)).alloc (.cells B b)) := by
  have h1 := below_alloc w (.cells A a)
  have h2 := below_alloc (w.alloc (.cells A a)) (.cells B b)
  have o1 := ObjAt.new w A a
  have o2 := ObjAt.new (w.alloc (.cells A a)) B b
  rw [World.size_alloc] at o2
  exact ⟨o1.below h2 o1.lt, o2, h1.trans (h2.mono h1.size)⟩

end Go.Proofs.YtelgaglnmcggkaaGreatDoor
