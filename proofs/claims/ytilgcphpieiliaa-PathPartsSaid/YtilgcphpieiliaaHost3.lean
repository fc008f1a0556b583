/- Contracts of layer 8: addresses in brackets, names, what a text is. -/
import Derived.Test.YtilgcphpieiliaaHost2
import Derived.Test.YtilgcphpieiliaaShelf
namespace Go.Proofs.Ytilgcphpieiliaa
open Go.RowKit
set_option linter.unusedVariables false

def inB (l : List UInt8) : List UInt8 := Lib.trimSuffix (Lib.trimPrefix l [91]) [93]

def frontQ (l : List UInt8) : Bool := Lib.hasPrefix l [91]

def backQ (l : List UInt8) : Bool := Lib.hasSuffix (Lib.trimPrefix l [91]) [93]

theorem in_le (l : List UInt8) : (inB l).length ≤ l.length := by
  unfold inB Lib.trimSuffix Lib.trimPrefix
  split <;> split <;> simp <;> omega

theorem bracket_is (l : List UInt8) : bracketB l = (frontQ l && (backQ l && (decide (2 ≤ (inB l).length) && (decide ((inB l).length ≤ 45) && (inB l).all hexB)))) := by
  have hsuf : ∀ t : List UInt8, Lib.hasSuffix t [93] = true ∨ (Lib.hasSuffix t [93] = false ∧ ∀ p, t ≠ p ++ [93]) := fun t => by
    cases c : Lib.hasSuffix t [93] with
    | true => exact .inl rfl
    | false =>
      refine .inr ⟨rfl, fun p e => ?_⟩
      unfold Lib.hasSuffix at c
      have : List.isSuffixOf [93] t = true := List.isSuffixOf_iff_suffix.2 ⟨p, e.symm⟩
      rw [this] at c
      cases c
  cases l with
  | nil => rfl
  | cons x t =>
    by_cases hx : x = 91
    · subst hx
      have e1 : Lib.hasPrefix (91 :: t) [91] = true := by simp [Lib.hasPrefix]
      have e2 : Lib.trimPrefix (91 :: t) [91] = t := by unfold Lib.trimPrefix; rw [if_pos e1]; rfl
      unfold inB frontQ backQ
      rw [e1, e2, Bool.true_and]
      rcases hsuf t with h | ⟨h, hno⟩
      · have h0 := h
        unfold Lib.hasSuffix at h
        obtain ⟨p, rfl⟩ := List.isSuffixOf_iff_suffix.1 h
        have e3 : Lib.trimSuffix (p ++ [93]) [93] = p := by unfold Lib.trimSuffix; rw [if_pos h0]; simp
        rw [h0, e3, Bool.true_and]
        unfold bracketB
        have l1 : (91 :: (p ++ [93])).length = p.length + 2 := by simp
        rw [l1]
        have g1 : (91 :: (p ++ [93])).getD (p.length + 2 - 1) 0 = 93 := by simp [List.getD]
        have g2 : ((91 :: (p ++ [93])).drop 1).take (p.length + 2 - 2) = p := by simp
        have g3 : (91 :: (p ++ [93])).getD 0 0 = 91 := rfl
        rw [g1, g2, g3]
        have d1 : decide (4 ≤ p.length + 2) = decide (2 ≤ p.length) := by rw [decide_eq_decide]; omega
        have d2 : decide (p.length + 2 ≤ 47) = decide (p.length ≤ 45) := by rw [decide_eq_decide]; omega
        rw [d1, d2]
        simp
        rw [Bool.and_assoc]
      · rw [h, Bool.false_and, Bool.eq_false_iff]
        intro c
        unfold bracketB at c
        simp only [Bool.and_eq_true, decide_eq_true_iff, beq_iff_eq] at c
        obtain ⟨⟨⟨⟨c1, -⟩, -⟩, c2⟩, -⟩ := c
        refine hno (t.take (t.length - 1)) ?_
        have l1 : (91 :: t).length = t.length + 1 := by simp
        rw [l1] at c1 c2
        have := drop_last (l := t) (by omega)
        have e : t.getD (t.length - 1) 0 = 93 := by
          have e : t.length + 1 - 1 = (t.length - 1) + 1 := by omega
          rw [e] at c2
          simpa [List.getD] using c2
        rw [e] at this
        rw [← this, List.take_append_drop]
    · have e1 : Lib.hasPrefix (x :: t) [91] = false := by
        unfold Lib.hasPrefix
        rw [Bool.eq_false_iff]
        intro c
        obtain ⟨r, c⟩ := List.isPrefixOf_iff_prefix.1 c
        simp only [List.cons_append, List.nil_append, List.cons.injEq] at c
        exact hx c.1.symm
      unfold frontQ
      rw [e1, Bool.false_and]
      unfold bracketB
      have : ((x :: t).getD 0 0 == 91) = false := by rw [beq_eq_false_iff_ne]; exact hx
      rw [this]
      simp

theorem cutOpenC (l : List UInt8) (w : World) : Calls Try.prog 16 #[.string (str l), .string ⟨#[91]⟩] w fun e w' => e = .returned (.tuple #[.string (str (Lib.trimPrefix l [91])), .bool (frontQ l)]) ∧ w = w' := by
  refine (Try.strings_CutPrefix (str l) ⟨#[91]⟩ w).mono ?_
  rintro e w' ⟨rfl, rfl⟩
  rw [str_data]
  exact ⟨rfl, rfl⟩

end Go.Proofs.Ytilgcphpieiliaa
