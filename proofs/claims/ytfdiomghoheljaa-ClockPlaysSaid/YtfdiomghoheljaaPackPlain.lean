/- What is packed of flags: plain, with no program in it. -/
import Derived.Test.YtfdiomghoheljaaVarPlain
namespace Go.Proofs.Ytfdiomghoheljaa
open Go.RowKit
set_option linter.unusedVariables false

/-- Flags as a number, the first one the lowest bit. -/
def flagSum : List Bool → Nat
  | [] => 0
  | b :: r => (if b then 1 else 0) + 2 * flagSum r
theorem flagSum_snoc : ∀ (l : List Bool) (b : Bool), flagSum (l ++ [b]) = flagSum l + (if b then 2 ^ l.length else 0)
  | [], b => by simp [flagSum]
  | c :: r, b => by
    simp only [List.cons_append, flagSum, flagSum_snoc r b, List.length_cons, Nat.pow_succ]
    cases b <;> simp <;> omega
theorem flagSum_lt : ∀ l : List Bool, flagSum l < 2 ^ l.length
  | [] => by simp [flagSum]
  | c :: r => by
    have := flagSum_lt r
    simp only [flagSum, List.length_cons, Nat.pow_succ]
    cases c <;> simp <;> omega
theorem flagSum_bit : ∀ (l : List Bool) (k : Nat), flagSum l / 2 ^ k % 2 = if l.getD k false then 1 else 0
  | [], k => by simp [flagSum]
  | c :: r, 0 => by
    simp only [flagSum, Nat.pow_zero, Nat.div_one, List.getD_cons_zero]
    cases c <;> simp <;> omega
  | c :: r, k + 1 => by
    have h := flagSum_bit r k
    have e : flagSum (c :: r) / 2 ^ (k + 1) = flagSum r / 2 ^ k := by
      rw [Nat.pow_succ, Nat.mul_comm (2 ^ k) 2, ← Nat.div_div_eq_div_mul]
      congr 1
      simp only [flagSum]
      cases c <;> simp <;> omega
    rw [e, h]
    rfl
theorem flagSum_take (f : List Bool) (k : Nat) (h : k < f.length) : flagSum (f.take (k + 1)) = flagSum (f.take k) + (if f.getD k false then 2 ^ k else 0) := by
  have e : f.take (k + 1) = f.take k ++ [f.getD k false] := by
    rw [List.take_add_one, List.getElem?_eq_getElem h, List.getD_eq_getElem?_getD, List.getElem?_eq_getElem h]
    rfl
  have hl : (f.take k).length = k := by rw [List.length_take]; omega
  rw [e, flagSum_snoc, hl]
theorem flagSum_take_lt (f : List Bool) (k : Nat) : flagSum (f.take k) < 2 ^ k :=
  Nat.lt_of_lt_of_le (flagSum_lt _) (Nat.pow_le_pow_right (by decide) (by rw [List.length_take]; omega))
theorem pow8_le (k : Nat) (h : k ≤ 8) : 2 ^ k ≤ 256 := by
  have := Nat.pow_le_pow_right (n := 2) (by decide) h
  omega
/-- 'x |= 1 << k'. -/
theorem orFlag (x k : Nat) (hk : k < 8) (hx : x < 2 ^ k) : bits BinOp.or IntKind.u8 (x : Int) (((2 ^ k : Nat) : Int)) = ((x + 2 ^ k : Nat) : Int) := by
  have h2 : 2 ^ k < 256 := by
    have := Nat.pow_le_pow_right (n := 2) (by decide) (show k ≤ 7 by omega)
    omega
  rw [u8_or_nat x (2 ^ k) (by omega) h2, Nat.or_comm]
  have := Nat.two_pow_add_eq_or_of_lt hx 1
  simp only [Nat.mul_one] at this
  omega
end Go.Proofs.Ytfdiomghoheljaa
