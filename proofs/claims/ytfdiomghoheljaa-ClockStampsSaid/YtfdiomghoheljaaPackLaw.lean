/- The walks of layer 5's laws. -/
import Derived.Test.YtfdiomghoheljaaPackOpen
namespace Go.Proofs.Ytfdiomghoheljaa
open Go.RowKit
set_option linter.unusedVariables false

theorem wr_new (w : World) (e t : TypeId) : Wr e w.heap.size w.heap.size none [] (w.alloc (.cells #[.slice none 0 0] t)) := by
  refine ⟨0, 0, Nat.le_refl _, by simp, ?_, World.frozen?_alloc_at _ _ _ _ rfl, rfl, ⟨World.ownsRow_nil _ _ _ _, Reads.nil _ _, fun _ => rfl, Nat.le_refl _, Nat.zero_le _, rfl⟩, Apart.none _⟩
  rw [World.cell?_alloc_at _ _ _ _ rfl]; rfl

theorem textA : textBytes ⟨#[97]⟩ = [1, 97] := by
  have h1 : (⟨#[97]⟩ : ByteArray).size = 1 := rfl
  unfold textBytes
  rw [h1, short_lt 1 (by omega)]
  rfl

theorem bytes5 : IsBytes [172, 2, 1, 97, 2] := fun x hx => by
  simp only [List.mem_cons, List.not_mem_nil, or_false] at hx
  omega
theorem bytes3 : IsBytes [1, 97, 2] := fun x hx => by
  simp only [List.mem_cons, List.not_mem_nil, or_false] at hx
  omega

theorem Away.moved {e : TypeId} {base p : Nat} {a q q' : Option Addr} {l : List Int} {w : World} (h : Away q p a) (hn : q' = q ∨ ∃ g, q' = some ⟨g, 0, none⟩ ∧ w.heap.size ≤ g) (hw : Wr e base p a l w) : Away q' p a := by
  rcases hn with rfl | ⟨g, rfl, hg⟩
  · exact h
  · intro x hx
    cases hx
    refine ⟨?_, fun y hy => ?_⟩
    · show g ≠ p
      have := hw.lt.2
      omega
    · show y.block ≠ g
      have := (hw.row y hy).2.1
      omega
theorem draws_belowN (w : World) (m : Nat) : Below w.heap.size w (w.drewN m) := ⟨rfl, rfl, rfl, Nat.le_refl _, fun _ _ => rfl⟩

end Go.Proofs.Ytfdiomghoheljaa
