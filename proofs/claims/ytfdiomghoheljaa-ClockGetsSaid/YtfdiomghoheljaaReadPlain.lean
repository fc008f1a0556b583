/- Readers of bytes in plain words: what is left, and the first error. No program in it. -/
import Derived.Test.YtfdiomghoheljaaVarPlain
namespace Go.Proofs.Ytfdiomghoheljaa
set_option linter.unusedVariables false

/-- What a reader of bytes is: what is left, and the error. -/
abbrev RdN := List Int × Int
def numR (r : RdN) (most : Int) : RdN × Int :=
  if r.2 ≠ 0 then (r, 0) else if (got r.1 0 0).2.2 ≠ 0 then ((r.1, (got r.1 0 0).2.2), 0) else if most < (got r.1 0 0).1 then ((r.1, 3), 0) else ((r.1.drop (got r.1 0 0).2.1.toNat, 0), (got r.1 0 0).1)

theorem numR_bytes {r : RdN} {most : Int} (h : IsBytes r.1) : IsBytes (numR r most).1.1 := by
  unfold numR
  split
  · exact h
  split
  · exact h
  split
  · exact h
  · exact fun x hx => h x (List.mem_of_mem_drop hx)
theorem numR_len (r : RdN) (most : Int) : (numR r most).1.1.length ≤ r.1.length := by
  unfold numR
  split
  · exact Nat.le_refl _
  split
  · exact Nat.le_refl _
  split
  · exact Nat.le_refl _
  · simp only [List.length_drop]; omega
theorem numR_range {r : RdN} {most : Int} (h : IsBytes r.1) (hm : 0 ≤ most) : 0 ≤ (numR r most).2 ∧ (numR r most).2 ≤ most := by
  unfold numR
  split
  · exact ⟨Int.le_refl _, hm⟩
  split
  · exact ⟨Int.le_refl _, hm⟩
  split
  · exact ⟨Int.le_refl _, hm⟩
  · rename_i h3
    have := got_range r.1 0 0 h (by omega) (Int.le_refl _) (by decide)
    exact ⟨this.1, by simp only; omega⟩
theorem numR_good {r : RdN} {most : Int} (h : IsBytes r.1) (h0 : r.2 = 0) (h1 : (got r.1 0 0).2.2 = 0) (h2 : ¬ most < (got r.1 0 0).1) : ∃ K L : Nat, (got r.1 0 0).1 = (K : Int) ∧ (got r.1 0 0).2.1 = (L : Int) ∧ 1 ≤ L ∧ L ≤ r.1.length ∧ numR r most = ((r.1.drop L, 0), (K : Int)) := by
  have e : got r.1 0 0 = ((got r.1 0 0).1, (got r.1 0 0).2.1, 0) := Prod.ext rfl (Prod.ext rfl h1)
  obtain ⟨K, L, e1, e2, l1, l2, -⟩ := got_one r.1 _ _ h e
  refine ⟨K, L, e1, e2, l1, l2, ?_⟩
  unfold numR
  rw [if_neg (by simp [h0]), if_neg (by simp [h1]), if_neg h2, e1, e2]
  simp
end Go.Proofs.Ytfdiomghoheljaa
