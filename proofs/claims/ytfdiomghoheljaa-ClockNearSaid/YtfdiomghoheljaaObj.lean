/- Objects of known cells: structs behind pointers, rows of structs that the call made itself. No program in it. -/
import Derived.Test.YtfdiomghoheljaaMem
import Derived.Laws.Rows
namespace Go.Proofs.Ytfdiomghoheljaa
open Go.RowKit
set_option linter.unusedVariables false

/-- The block holds these values, and may be written. -/
structure ObjAt (w : World) (b : Nat) (vs : List Value) : Prop where
  heap : ∃ e, w.heap[b]? = some (.cells vs.toArray e (0, 0))

theorem ObjAt.lt {w : World} {b : Nat} {vs : List Value} (h : ObjAt w b vs) : b < w.heap.size := by
  obtain ⟨e, h⟩ := h.heap
  rcases Nat.lt_or_ge b w.heap.size with h1 | h1
  · exact h1
  · rw [Array.getElem?_eq_none h1] at h
    cases h

theorem ObjAt.cell {w : World} {b : Nat} {vs : List Value} (h : ObjAt w b vs) (i : Nat) {v : Value} (hv : vs[i]? = some v) : w.cell? ⟨b, i, none⟩ = some v := by
  obtain ⟨e, h⟩ := h.heap
  simp [World.cell?, h, hv]

theorem ObjAt.free {w : World} {b : Nat} {vs : List Value} (h : ObjAt w b vs) (i : Nat) : w.frozen? ⟨b, i, none⟩ = false := by
  obtain ⟨e, h⟩ := h.heap
  simp [World.frozen?, h]

theorem ObjAt.new (w : World) (vs : Array Value) (e : TypeId) : ObjAt (w.alloc (.cells vs e)) w.heap.size vs.toList := by
  refine ⟨e, ?_⟩
  unfold World.alloc
  simp

theorem ObjAt.below {w w' : World} {b K : Nat} {vs : List Value} (h : ObjAt w b vs) (hb : Below K w w') (hlt : b < K) : ObjAt w' b vs := by
  obtain ⟨e, h⟩ := h.heap
  exact ⟨e, (hb.block b hlt).trans h⟩

theorem ObjAt.set {w : World} {b : Nat} {vs : List Value} (h : ObjAt w b vs) (i : Nat) (v : Value) : ObjAt (w.setCell ⟨b, i, none⟩ v) b (vs.set i v) := by
  obtain ⟨e, h⟩ := h.heap
  refine ⟨e, ?_⟩
  have := heap_setCell_same w b i vs.toArray e v h
  rw [this, List.setIfInBounds_toArray]

theorem ObjAt.other {w : World} {b : Nat} {vs : List Value} (h : ObjAt w b vs) {p : Addr} (hne : p.block ≠ b) (v : Value) : ObjAt (w.setCell p v) b vs := by
  obtain ⟨e, h⟩ := h.heap
  refine ⟨e, ?_⟩
  rw [heap_setCell_other w p b v (Ne.symm hne)]
  exact h

theorem ObjAt.drew {w : World} {b : Nat} {vs : List Value} (h : ObjAt w b vs) : ObjAt w.drew b vs := by
  obtain ⟨e, h⟩ := h.heap
  exact ⟨e, h⟩

theorem ObjAt.drewN {w : World} {b : Nat} {vs : List Value} (h : ObjAt w b vs) (n : Nat) : ObjAt (w.drewN n) b vs := by
  obtain ⟨e, h⟩ := h.heap
  exact ⟨e, by rw [show (w.drewN n).heap = w.heap from by simp]; exact h⟩
end Go.Proofs.Ytfdiomghoheljaa
