/- Contracts of the reference of layer 8: addresses. -/
import Derived.Test.YtilgcphpieiliaaHostRef
namespace Go.Proofs.Ytilgcphpieiliaa
open Go.RowKit
set_option linter.unusedVariables false

theorem below_draws {B : Nat} {a w : World} (h : Below B a w) (k : Nat) : Below B a (w.drewN k) := ⟨h.os, h.tape, h.output, h.size, h.block⟩

theorem quad_no {P : List (List UInt8)} {k : Nat} (hk : k < P.length) (h : octetB (P.getD k []) = false) : (decide (P.length = 4) && P.all octetB) = false := by
  rw [all_no' hk h, Bool.and_false]

/-- A walk from one world is a walk from any world of which the same is known. -/
theorem wp_any {P : Program} {c : Code} {Q : Exit → Act → World → Prop} {a : Act} {w : World} (S : World → Prop) (h : S w) (H : ∀ w', S w' → Code.wp P c Q a w') : Code.wp P c Q a w := H w h

/-- What stands in the way of a number of an address. -/
theorem octet_cases (x : List UInt8) : (octetB x = false ∧ (x.length < 1 ∨ 3 < x.length)) ∨ (1 ≤ x.length ∧ x.length ≤ 3 ∧ octetB x = false ∧ lead x ≠ x.length) ∨ (1 ≤ x.length ∧ x.length ≤ 3 ∧ lead x = x.length ∧ numL x = ((numV x : Int), true) ∧ ((octetB x = false ∧ 255 < numV x) ∨ (numV x ≤ 255 ∧ Lib.itoa (numV x : Int) = Lib.decDigits (numV x) ∧ octetB x = (Lib.decDigits (numV x) == x)))) := by
  unfold octetB
  by_cases h1 : 1 ≤ x.length
  · by_cases h3 : x.length ≤ 3
    · rw [decide_eq_true h1, decide_eq_true h3]
      by_cases hd : lead x = x.length
      · refine .inr (.inr ⟨h1, h3, hd, ?_, ?_⟩)
        · have hs : signed x = false := by
            cases c : signed x with
            | false => rfl
            | true =>
              obtain ⟨c1, c2, -⟩ := signed_yes c
              have := lead_all hd 0 (by omega)
              omega
          obtain ⟨-, hb⟩ := signed_no hs
          unfold numL
          rw [hs, hb, if_neg (by omega)]
          rfl
        · rw [decide_eq_true hd]
          by_cases hv : numV x ≤ 255
          · refine .inr ⟨hv, ?_, ?_⟩
            · unfold Lib.itoa
              rw [if_neg (by omega)]
              rfl
            · rw [decide_eq_true hv]
              simp
          · exact .inl ⟨by rw [decide_eq_false hv]; simp, by omega⟩
      · exact .inr (.inl ⟨h1, h3, by rw [decide_eq_false hd]; simp, hd⟩)
    · exact .inl ⟨by rw [decide_eq_false h3]; simp, .inr (by omega)⟩
  · exact .inl ⟨by rw [decide_eq_false h1]; simp, .inl (by omega)⟩

end Go.Proofs.Ytilgcphpieiliaa
