/- Contracts of the reference of layer 11: which path fits which. -/
import Derived.Test.YtilgcphpieiliaaPathRef
namespace Go.Proofs.Ytilgcphpieiliaa
open Go.RowKit
set_option linter.unusedVariables false

theorem out_zero {l : List UInt8} {k : Nat} (h : l.length ≤ k) : l.getD k 0 = 0 := by
  simp only [List.getD, List.getElem?_eq_none h]
  rfl

set_option maxHeartbeats 1000000 in
set_option maxRecDepth 100000 in
theorem refFitC (p c : List UInt8) (n m : Nat) (w : World) (hl : p.length = n) (hm : n ≤ maxLen) (hl2 : c.length = m) (hm2 : m ≤ maxLen) :
    Calls Try.prog 12 #[.string (str p), .string (str c)] w fun e w' => e = .returned (.bool (fitP p c)) ∧ w = w' := by
  have s1 : (str p).size = n := by rw [str_size, hl]
  have s2 : (str c).size = m := by rw [str_size, hl2]
  unfold maxLen at hm hm2
  have hk := str_toList
  have hx : (str p).extract 0 m = str (p.take m) := by rw [str_extract]; simp
  rcases Nat.eq_zero_or_pos m with h3 | h3
  · subst h3
    obtain rfl : c = [] := List.eq_nil_of_length_eq_zero hl2
    have hf : fitP p [] = (decide (n = 0) || p.getD 0 0 == 47) := by
      unfold fitP
      rw [hl]
      simp
    rw [hf]
    have hn0 : ¬ (n : Int) < 0 := by omega
    rcases Nat.eq_zero_or_pos n with h0 | h0
    · subst h0
      obtain rfl : p = [] := List.eq_nil_of_length_eq_zero hl
      clear hl hl2 hf
      go_enter Try.func12, Try.ntmps12
      go_wp2
      go_ret
      exact ⟨rfl, rfl⟩
    · have i0 := first_str (P := Try.prog) w 9 p Try.underlying9 (by omega)
      have e2 := u8_is (p.getD 0 0) 47 (by omega)
      obtain ⟨b2, f1, f2⟩ : ∃ b, (p.getD 0 0 == 47) = b ∧ (((p.getD 0 0).toNat : Int) == 47) = b := ⟨_, rfl, e2.symm⟩
      rw [f1, decide_eq_false (by omega), Bool.false_or]
      have n0 : ((n : Int) == 0) = false := by rw [beq_eq_false_iff_ne]; omega
      clear e2 f1 hl hl2 hf
      generalize (p.getD 0 0).toNat = x2 at *
      go_enter Try.func12, Try.ntmps12
      go_wp2
      go_ret
      exact ⟨rfl, rfl⟩
  unfold fitP
  rw [hl, hl2]
  by_cases h1 : m ≤ n
  · have h1' : ¬ (n : Int) < (m : Int) := by omega
    have h1'' : (m : Int) ≤ (n : Int) := by omega
    rw [decide_eq_true h1, Bool.true_and]
    cases hq : (p.take m == c) with
    | false =>
      have hq2 : (p.take m != c) = true := by rw [bne, hq]; rfl
      generalize p.take m = y at *
      clear hl hl2
      go_enter Try.func12, Try.ntmps12
      go_wp2
      go_ret
      exact ⟨rfl, rfl⟩
    | true =>
      have hq2 : (p.take m != c) = false := by rw [bne, hq]; rfl
      rw [Bool.true_and]
      generalize hy : p.take m = y at *
      by_cases h2 : n = m
      · have h2' : ((n : Int) == (m : Int)) = true := by rw [beq_iff_eq]; omega
        rw [decide_eq_true h2, Bool.true_or]
        clear hl hl2
        go_enter Try.func12, Try.ntmps12
        go_wp2
        all_goals (go_ret; exact ⟨rfl, rfl⟩)
      · have h2' : ((n : Int) == (m : Int)) = false := by rw [beq_eq_false_iff_ne]; omega
        rw [decide_eq_false h2, Bool.false_or]
        have hi2 := run_index_str (P := Try.prog) w 9 p .i64 m Try.underlying9 (by omega)
        have e2 := u8_is (p.getD m 0) 47 (by omega)
        obtain ⟨b2, f1, f2⟩ : ∃ b, (p.getD m 0 == 47) = b ∧ (((p.getD m 0).toNat : Int) == 47) = b := ⟨_, rfl, e2.symm⟩
        rw [f1]
        have hlt : (m : Int) < (n : Int) := by omega
        clear e2 f1
        generalize (p.getD m 0).toNat = x2 at *
        rw [decide_eq_true h3, Bool.true_and]
        have h3' : (0 : Int) < (m : Int) := by omega
        obtain ⟨j, rfl⟩ : ∃ j, m = j + 1 := ⟨m - 1, by omega⟩
        have hj : ((j + 1 : Nat) : Int) - 1 = (j : Int) := by omega
        have hj2 : (j : Int) < ((j + 1 : Nat) : Int) := by omega
        have hj3 : (0 : Int) ≤ (j : Int) := by omega
        have hi1 := run_index_str (P := Try.prog) w 9 c .i64 j Try.underlying9 (by omega)
        have e1 := u8_is (c.getD j 0) 47 (by omega)
        obtain ⟨b1, g1, g2⟩ : ∃ b, (c.getD j 0 == 47) = b ∧ (((c.getD j 0).toNat : Int) == 47) = b := ⟨_, rfl, e1.symm⟩
        have ej : j + 1 - 1 = j := rfl
        rw [ej, g1]
        clear e1 g1 ej
        generalize (c.getD j 0).toNat = x1 at *
        generalize j + 1 = J at *
        clear hl hl2 hy
        cases b1
        all_goals (
          go_enter Try.func12, Try.ntmps12
          go_wp2
          go_ret
          first | exact ⟨rfl, rfl⟩ | exact ⟨by simp, rfl⟩)
  · have h1' : (n : Int) < (m : Int) := by omega
    rw [decide_eq_false h1]
    clear hl hl2
    go_enter Try.func12, Try.ntmps12
    go_wp2
    go_ret
    exact ⟨rfl, rfl⟩
end Go.Proofs.Ytilgcphpieiliaa
