/- Contracts and plain words that the laws' proofs stand on, put together. -/
import Derived.Test.YtelgaglnmcggkaaGreatDoorLibAA
import Derived.Test.YtelgaglnmcggkaaGreatDoorLibAB
import Derived.Deep.RegionHeld3
/- A number's short bytes, and what bytes begin with: plain, with no program in it. -/
namespace Go.Proofs.YtelgaglnmcggkaaGreatDoor
set_option linter.unusedVariables false

/-- A number's short bytes. -/
def short (n : Nat) : List Int := if h : n < 128 then [(n : Int)] else ((n % 128 + 128 : Nat) : Int) :: short (n / 128)
termination_by n
decreasing_by omega
theorem short_lt (n : Nat) (h : n < 128) : short n = [(n : Int)] := by rw [short, dif_pos h]
theorem short_ge (n : Nat) (h : ¬ n < 128) : short n = ((n % 128 + 128 : Nat) : Int) :: short (n / 128) := by rw [short, dif_neg h]

theorem short_bytes (n : Nat) : IsBytes (short n) := by
  induction n using Nat.strongRecOn with
  | _ n ih =>
    by_cases h : n < 128
    · rw [short_lt n h]; intro x hx; simp at hx; subst hx; omega
    · rw [short_ge n h]; intro x hx
      rcases List.mem_cons.mp hx with rfl | hx
      · omega
      · exact ih _ (by omega) x hx

theorem short_bounds (n : Nat) : 1 ≤ (short n).length ∧ n < 2 ^ (7 * (short n).length) ∧ (2 ≤ (short n).length → 2 ^ (7 * ((short n).length - 1)) ≤ n) := by
  induction n using Nat.strongRecOn with
  | _ n ih =>
    by_cases h : n < 128
    · rw [short_lt n h]; simp; omega
    · rw [short_ge n h]
      obtain ⟨h1, h2, h3⟩ := ih (n / 128) (by omega)
      simp only [List.length_cons]
      generalize (short (n / 128)).length = L at h1 h2 h3 ⊢
      refine ⟨by omega, ?_, fun _ => ?_⟩
      · rw [Nat.mul_add, Nat.pow_add]
        generalize 2 ^ (7 * L) = P at h2 ⊢
        omega
      · rw [Nat.add_sub_cancel]
        by_cases c : 2 ≤ L
        · have h4 := h3 c
          have e : 7 * L = 7 * (L - 1) + 7 := by omega
          rw [e, Nat.pow_add]
          generalize 2 ^ (7 * (L - 1)) = P at h4 ⊢
          omega
        · have : L = 1 := by omega
          subst this
          omega

theorem pow_lt_of (a b : Nat) (h : 2 ^ a < 2 ^ b) : a < b := (Nat.pow_lt_pow_iff_right (by decide)).mp h

theorem short_len (n k : Nat) (hk : 1 ≤ k) (h : n < 2 ^ (7 * k)) : (short n).length ≤ k := by
  obtain ⟨h1, h2, h3⟩ := short_bounds n
  by_cases c : 2 ≤ (short n).length
  · have := pow_lt_of _ _ (Nat.lt_of_le_of_lt (h3 c) h)
    omega
  · omega

theorem short_ten (n : Nat) (h : n ≤ 18446744073709551615) : (short n).length ≤ 10 := short_len n 10 (by omega) (by omega)

/-- What bytes begin with: the number, how many bytes it has, the error's number; with i bytes taken, which gave n. -/
def got : List Int → Nat → Int → Int × Int × Int
  | [], _, _ => (0, 0, 2)
  | c :: r, i, n =>
    if (i ≠ 0 ∧ c = 0) ∨ (i = 9 ∧ 1 < c) then (0, 0, 1)
    else if c < 128 then (n + c % 128 * ((2 ^ (7 * i) : Nat) : Int), (i : Int) + 1, 0)
    else got r (i + 1) (n + c % 128 * ((2 ^ (7 * i) : Nat) : Int))
theorem got_bad (c : Int) (r : List Int) (i : Nat) (n : Int) (h : (i ≠ 0 ∧ c = 0) ∨ (i = 9 ∧ 1 < c)) : got (c :: r) i n = (0, 0, 1) := by rw [got, if_pos h]
theorem got_last (c : Int) (r : List Int) (i : Nat) (n : Int) (h : ¬ ((i ≠ 0 ∧ c = 0) ∨ (i = 9 ∧ 1 < c))) (h2 : c < 128) : got (c :: r) i n = (n + c % 128 * ((2 ^ (7 * i) : Nat) : Int), (i : Int) + 1, 0) := by rw [got, if_neg h, if_pos h2]
theorem got_more (c : Int) (r : List Int) (i : Nat) (n : Int) (h : ¬ ((i ≠ 0 ∧ c = 0) ∨ (i = 9 ∧ 1 < c))) (h2 : ¬ c < 128) : got (c :: r) i n = got r (i + 1) (n + c % 128 * ((2 ^ (7 * i) : Nat) : Int)) := by rw [got, if_neg h, if_neg h2]

end Go.Proofs.YtelgaglnmcggkaaGreatDoor

/- Contracts of layer 2's functions and of its reference. -/
namespace Go.Proofs.YtelgaglnmcggkaaGreatDoor
open Go.RowKit
set_option linter.unusedVariables false

end Go.Proofs.YtelgaglnmcggkaaGreatDoor

/- The walks of layer 2's laws. -/
namespace Go.Proofs.YtelgaglnmcggkaaGreatDoor
open Go.RowKit
set_option linter.unusedVariables false

end Go.Proofs.YtelgaglnmcggkaaGreatDoor

/- The walks of layer 2's laws on what is got. -/
namespace Go.Proofs.YtelgaglnmcggkaaGreatDoor
open Go.RowKit
set_option linter.unusedVariables false

end Go.Proofs.YtelgaglnmcggkaaGreatDoor
