/- Layer 20's laws, walked: an event's bytes, of which it is read again. -/
import Derived.Test.YtkakcdojbgnocaaDoorLibAV
import Derived.Test.YtkakcdojbgnocaaDoorLibAE
namespace Go.Proofs.YtkakcdojbgnocaaDoor
open Go.RowKit
set_option linter.unusedVariables false

theorem itemB_len {x : ItemL} (h : rightX x = true) (hd : x.dom.length ≤ 2000) : (itemBytes x).length ≤ 4000 := by
  obtain ⟨a1, a2, a3, a4, a5, a6⟩ := right_item h
  obtain ⟨X, f1, f2⟩ := fold_nat x.exp (by omega) (by omega)
  unfold itemBytes
  simp only [List.length_append, strBytes_len, str_size]
  have t1 := short_ten x.name.length (by omega)
  have t2 := short_ten x.dom.length (by omega)
  have t3 := short_ten x.path.length (by omega)
  have t4 := short_ten x.val.length (by omega)
  have t5 := short_ten (foldI x.exp).toNat (by rw [f1]; omega)
  have t6 := short_ten x.made.toNat (by omega)
  have t7 := short_ten x.used.toNat (by omega)
  omega
theorem bytesE_len {e : EventN} (h : rightE e = true) (hd : e.item.dom.length ≤ 2000) : (bytesE e).length ≤ 10000 := by
  obtain ⟨r1, r2, r3, r4, r5⟩ := right_event h
  have t1 := bytesD_len r1
  have t2 := bytesT_len r2
  have t3 := short_ten e.over.length (by omega)
  have t4 := packs_len r4
  unfold bytesE
  simp only [List.length_append, List.length_singleton]
  by_cases k : e.kind = 1
  · rw [if_pos k]
    have := itemB_len (r5 k) hd
    omega
  · rw [if_neg k]
    simp only [List.length_nil]
    omega

/-- What lies where behind the bytes: the event's box, its bytes, a writer with the same. -/
structure StB (w : World) (A : Array Value) (p : Nat) (q r : Option Addr) (N d : Nat) (bs : List Int) (v : World) : Prop where
  o : ObjAt v w.heap.size A.toList
  b : Owned w.heap.size 5 q N d (bs.map (Value.int .u8)) v
  wr : Wr 5 w.heap.size p r bs v
  hb : Below w.heap.size w v
theorem StB.below {w v v' : World} {A : Array Value} {p : Nat} {q r : Option Addr} {N d : Nat} {bs : List Int} (h : StB w A p q r N d bs v) (hx : Below v.heap.size v v') : StB w A p q r N d bs v' :=
  ⟨h.o.below hx h.o.lt, h.b.below hx (Nat.le_refl _), h.wr.below hx, h.hb.trans (hx.mono h.hb.size)⟩

/-- And the event that was read, in a box of its own. -/
structure StX (w : World) (A : Array Value) (p : Nat) (q r : Option Addr) (N d : Nat) (bs : List Int) (xb : Nat) (A7 : Array Value) (a7 : Option Addr) (n7 c7 : Nat) (L : List DotN) (v : World) : Prop where
  s : StB w A p q r N d bs v
  x : ObjAt v xb A7.toList
  m : RowOf encD 3 v a7 n7 c7 L
theorem StX.below {w v v' : World} {A A7 : Array Value} {p xb n7 c7 : Nat} {q r a7 : Option Addr} {N d : Nat} {bs : List Int} {L : List DotN} (h : StX w A p q r N d bs xb A7 a7 n7 c7 L v) (hx : Below v.heap.size v v') : StX w A p q r N d bs xb A7 a7 n7 c7 L v' :=
  ⟨h.s.below hx, h.x.below hx h.x.lt, h.m.below hx⟩

end Go.Proofs.YtkakcdojbgnocaaDoor
