/- Contracts and plain words that the laws' proofs stand on, put together. -/
import Derived.Test.YtjocnhkapiiblaaDoorAttrsPlain
import Derived.Test.YtjocnhkapiiblaaDoorLibAE
import Derived.Test.YtjocnhkapiiblaaDoorLibAG
import Derived.Test.YtjocnhkapiiblaaDoorLibAF
/- Cookies in plain words: items, which are right, which are over, which go with a request. No program in it. -/
namespace Go.Proofs.YtjocnhkapiiblaaDoor
set_option linter.unusedVariables false

/-- A cookie with its key. -/
structure ItemL where
  name : List UInt8
  dom : List UInt8
  path : List UInt8
  val : List UInt8
  host : Bool
  sec : Bool
  http : Bool
  pers : Bool
  exp : Int
  made : Int
  used : Int

def ItemL.none : ItemL := ⟨[], [], [], [], false, false, false, false, 0, 0, 0⟩

def overX (x : ItemL) (now : Int) : Bool := x.pers && decide (x.exp ≤ now)

/-- Does a cookie go with a request? -/
def fitsX (x : ItemL) (h p : List UInt8) (sec script : Bool) (now : Int) : Bool :=
  !(overX x now || ((x.sec && !sec) || ((x.http && script) || !fitP p x.path))) && (if x.host = true then h == x.dom else h == x.dom || matchB h x.dom)
end Go.Proofs.YtjocnhkapiiblaaDoor

/- Contracts of the reference of layer 14: plain texts, public suffixes, what is over. -/
namespace Go.Proofs.YtjocnhkapiiblaaDoor
open Go.RowKit
set_option linter.unusedVariables false

/-- Three objects of the call's own, one behind the other. -/
theorem three_new (w : World) (A B C : Array Value) (a b c : TypeId) :
    ObjAt (((w.alloc (.cells A a)).alloc (.cells B b)).alloc (.cells C c)) w.heap.size A.toList ∧ ObjAt (((w.alloc (.cells A a)).alloc (.cells B b)).alloc (.cells C c)) (w.heap.size + 1) B.toList ∧
    ObjAt (((w.alloc (.cells A a)).alloc (.cells B b)).alloc (.cells C c)) (w.heap.size + 2) C.toList ∧ Below w.heap.size w (((w.alloc (.cells A a)).alloc (.cells B b)).alloc (.cells C c)) := by
  have s1 : (w.alloc (.cells A a)).heap.size = w.heap.size + 1 := by simp
  have s2 : ((w.alloc (.cells A a)).alloc (.cells B b)).heap.size = w.heap.size + 2 := by simp
  have o1 := ObjAt.new w A a
  have o2 := ObjAt.new (w.alloc (.cells A a)) B b
  have o3 := ObjAt.new ((w.alloc (.cells A a)).alloc (.cells B b)) C c
  have b1 := below_alloc w (.cells A a)
  have b2 := below_alloc (w.alloc (.cells A a)) (.cells B b)
  have b3 := below_alloc ((w.alloc (.cells A a)).alloc (.cells B b)) (.cells C c)
  have o1' := (o1.below b2 o1.lt).below b3 (o1.below b2 o1.lt).lt
  have o2' := o2.below b3 o2.lt
  rw [s1] at o2'
  rw [s2] at o3
  exact ⟨o1', o2', o3, (b1.trans (b2.mono b1.size)).trans (b3.mono (b1.trans (b2.mono b1.size)).size)⟩
end Go.Proofs.YtjocnhkapiiblaaDoor
